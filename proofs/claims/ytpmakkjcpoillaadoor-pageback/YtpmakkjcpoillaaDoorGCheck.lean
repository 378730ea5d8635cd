/- Whether a geometry is right. No claim of its own. -/
import Derived.Test.YtpmakkjcpoillaaDoorGKept
namespace Go.Proofs.YtpmakkjcpoillaaDoor.ge
open Go.RowKit
set_option maxRecDepth 20000

section
variable {ops : Array Oper} {C : World → Prop} {K : Act → Prop} {o : Oper} {a : Act}
/-- an operation that is not wanted -/
theorem q_skip (hw : Region.wanted o (yielded ops a.tmps) = false) (d : Option Tmp) (hd : o.dst = d) (hK : K (a.put d undef)) :
    if Region.wanted o (yielded ops a.tmps) = true then o.quiet Tryd.prog a C K else K (a.put o.dst undef) := by
  rw [if_neg (by rw [hw]; simp)]
  subst hd
  exact hK
/-- a struct is read -/
theorem q_loadS (hw : Region.wanted o (yielded ops a.tmps) = true) (d : Option Tmp) (hd : o.dst = d) (x : Operand) (t : TypeId) (hop : o.op = Op.load t x) (p v : Value) (hx : a.eval x = p) (h : ∀ w, C w → (Instr.loadAt t p).run Tryd.prog w = .ok v w) (hK : K (a.put d v)) :
    if Region.wanted o (yielded ops a.tmps) = true then o.quiet Tryd.prog a C K else K (a.put o.dst undef) := by
  refine q_val hw d hd _ (fun w hC => ?_) hK
  unfold execOp
  simp only [hop, hx, Sem.run_bind, Result.andThen_ok, h w hC]
  rfl
end
theorem Hid.mk' {p : Prop} (h : p) : Hid p := h
/-- a geometry's cells in all worlds that come -/
theorem geo_class {w1 : World} {c : Nat} {g : List Int} (h : Ar w1 c 0 .i64 g) (hl : g.length = 6) : ∀ w', Below w1.heap.size w1 w' →
    w'.cell? ⟨c, 0, none⟩ = some (.int .i64 (gb g 0)) ∧ w'.cell? ⟨c, 1, none⟩ = some (.int .i64 (gb g 1)) ∧ w'.cell? ⟨c, 2, none⟩ = some (.int .i64 (gb g 2)) ∧ w'.cell? ⟨c, 3, none⟩ = some (.int .i64 (gb g 3)) ∧
    w'.cell? ⟨c, 4, none⟩ = some (.int .i64 (gb g 4)) ∧ w'.cell? ⟨c, 5, none⟩ = some (.int .i64 (gb g 5)) ∧ (Instr.loadAt 23 (.pointer (some ⟨c, 0, none⟩))).run Tryd.prog w' = .ok (.agg (ints .i64 g)) w' :=
  fun _ hb => by
    have a := h.below hb (h.lt (by omega))
    obtain ⟨f0, f1, f2, f3, f4, f5⟩ := geo_cells a hl
    exact ⟨f0, f1, f2, f3, f4, f5, load_geo a hl⟩
/-- a call that only makes memory, in all worlds that come -/
theorem call_class {f : FuncId} {vs : Array Value} {v : Value} (h : ∀ w, Calls Tryd.prog f vs w fun e w' => e = .returned v ∧ Below w.heap.size w w') (w1 : World) : ∀ w', Below w1.heap.size w1 w' → Calls Tryd.prog f vs w' fun e w'' => e = .returned v ∧ Below w1.heap.size w1 w'' :=
  fun w' hb => (h w').mono fun _ _ h' => ⟨h'.1, hb.trans (h'.2.mono hb.size)⟩

set_option maxHeartbeats 2000000 in
theorem check_k (g : List Int) (w : World) (hl : g.length = 6) (hk : ¬ Kept g) :
    Calls Tryd.prog 23 #[.agg (ints .i64 g)] w fun x w' => x = .returned (.int .i64 2) ∧ Below w.heap.size w w' := by
  have S : Hid (∀ w, Calls Tryd.prog 39 #[.agg (ints .i64 g)] w fun x w' => x = .returned (.bool false) ∧ Below w.heap.size w w') := fun w => kept_any g w hl false (iff_of_false Bool.false_ne_true hk)
  have t0 : (0 : Nat) = 0 := rfl
  clear hk
  go_enter Tryd.func23, Tryd.ntmps23
  go_wp2_with (first
    | (go_at_call 39; refine (S.out _).mono ?_; rintro e w2 ⟨rfl, B2⟩; have HX : Hid (Ar w2 w.heap.size 0 .i64 g) := HX.out.below B2 (by omega); obtain ⟨e0, e1, e2, e3, e4, e5⟩ := geo_cells HX.out hl)
    | (have q1 := HX; refine load_lawS _ (by rfl) _ _ rfl (load_geo HX.out hl) ?_)
    | (have q0 := t0; refine box_lawF _ rfl (.tmp 0) 23 rfl .i64 g rfl ?_; intro w1 X1 B1 L1; have HX : Hid (Ar w1 w.heap.size 0 .i64 g) := X1; obtain ⟨f0, f1, f2, f3, f4, f5⟩ := geo_cells X1 hl; clear X1 t0))
  go_ret
  exact ⟨rfl, B1.trans (B2.mono (by omega))⟩

set_option maxHeartbeats 2000000 in
theorem check_m (g : List Int) (w : World) (hl : g.length = 6) (hk : Kept g) (h16 : gb g 2 % 16 ≠ 0) :
    Calls Tryd.prog 23 #[.agg (ints .i64 g)] w fun x w' => x = .returned (.int .i64 2) ∧ Below w.heap.size w w' := by
  have S : Hid (∀ w, Calls Tryd.prog 39 #[.agg (ints .i64 g)] w fun x w' => x = .returned (.bool true) ∧ Below w.heap.size w w') := fun w => kept_any g w hl true (iff_of_true rfl hk)
  obtain ⟨m, hm⟩ : ∃ m, m = gb g 2 % 16 := ⟨_, rfl⟩
  have q1 : (gb g 2).tmod 16 = m := by rw [hm]; exact Int.tmod_eq_emod_of_nonneg (by obtain ⟨-, -, h, -⟩ := hk; omega)
  have m0 : m ≠ 0 := by omega
  have m1 : IntKind.i64.wrap m = m := by rw [IntKind.wrap_i64]; omega
  have t0 : (0 : Nat) = 0 := rfl
  clear hk h16 hm
  go_enter Tryd.func23, Tryd.ntmps23
  go_wp2_with (first
    | (go_at_call 39; refine (S.out _).mono ?_; rintro e w2 ⟨rfl, B2⟩; have HX : Hid (Ar w2 w.heap.size 0 .i64 g) := HX.out.below B2 (by omega); obtain ⟨e0, e1, e2, e3, e4, e5⟩ := geo_cells HX.out hl)
    | (have q1 := HX; refine load_lawS _ (by rfl) _ _ rfl (load_geo HX.out hl) ?_)
    | (have q0 := t0; refine box_lawF _ rfl (.tmp 0) 23 rfl .i64 g rfl ?_; intro w1 X1 B1 L1; have HX : Hid (Ar w1 w.heap.size 0 .i64 g) := X1; obtain ⟨f0, f1, f2, f3, f4, f5⟩ := geo_cells X1 hl; clear X1 t0))
  go_ret
  exact ⟨rfl, B1.trans (B2.mono (by omega))⟩

set_option maxHeartbeats 2000000 in
theorem check_r (g : List Int) (w : World) (hl : g.length = 6) (hk : Kept g) (h16 : gb g 2 % 16 = 0) (hr : gb g 1 < rec g) :
    Calls Tryd.prog 23 #[.agg (ints .i64 g)] w fun x w' => x = .returned (.int .i64 2) ∧ Below w.heap.size w w' := by
  have S : Hid (∀ w, Calls Tryd.prog 39 #[.agg (ints .i64 g)] w fun x w' => x = .returned (.bool true) ∧ Below w.heap.size w w') := fun w => kept_any g w hl true (iff_of_true rfl hk)
  obtain ⟨m, hm⟩ : ∃ m, m = gb g 2 % 16 := ⟨_, rfl⟩
  have q1 : (gb g 2).tmod 16 = m := by rw [hm]; exact Int.tmod_eq_emod_of_nonneg (by obtain ⟨-, -, h, -⟩ := hk; omega)
  have m0 : m = 0 := by omega
  subst m0
  have SR' : Hid (∀ w, Calls Tryd.prog 40 #[.agg (ints .i64 g)] w fun x w' => x = .returned (.int .i64 (rec g)) ∧ Below w.heap.size w w') := fun w => rec_any g w hl hk
  have SD' : Hid (∀ w, Calls Tryd.prog 41 #[.agg (ints .i64 g)] w fun x w' => x = .returned (.int .i64 (gb g 0 - 4)) ∧ Below w.heap.size w w') := fun w => db_any g w hl hk
  have q2 : IntKind.i64.wrap (gb g 3 + 3) = gb g 3 + 3 := by obtain ⟨-, -, -, h, -⟩ := hk; rw [IntKind.wrap_i64]; omega
  have t0 : (0 : Nat) = 0 := rfl
  clear hk h16 hm
  generalize rec g = z at *
  generalize gb g 0 - 4 = y at *
  go_enter Tryd.func23, Tryd.ntmps23
  go_wp2_with (first
    | (go_at_call 39; refine (S.out _).mono ?_; rintro e w2 ⟨rfl, B2⟩; have HX : Hid (Ar w2 w.heap.size 0 .i64 g) := HX.out.below B2 (by omega); obtain ⟨e0, e1, e2, e3, e4, e5⟩ := geo_cells HX.out hl)
    | (have q1 := HX; refine load_lawS _ (by rfl) _ _ rfl (load_geo HX.out hl) ?_)
    | (have q0 := t0; refine box_lawF _ rfl (.tmp 0) 23 rfl .i64 g rfl ?_; intro w1 X1 B1 L1; have HX : Hid (Ar w1 w.heap.size 0 .i64 g) := X1; obtain ⟨f0, f1, f2, f3, f4, f5⟩ := geo_cells X1 hl; clear X1 t0))
  have SR : Hid (∀ w', Below w2.heap.size w2 w' → Calls Tryd.prog 40 #[.agg (ints .i64 g)] w' fun x w'' => x = .returned (.int .i64 z) ∧ Below w2.heap.size w2 w'') := call_class SR'.out w2
  have SD : Hid (∀ w', Below w2.heap.size w2 w' → Calls Tryd.prog 41 #[.agg (ints .i64 g)] w' fun x w'' => x = .returned (.int .i64 y) ∧ Below w2.heap.size w2 w'') := call_class SD'.out w2
  have GC := Hid.mk' (geo_class HX.out hl)
  refine region_quietC (C := fun w' => Below w2.heap.size w2 w') (by kernel_rfl) (by kernel_rfl) (Below.refl _ _).drew ?_
  refine wpQuiet_step (fun K hK => ?_)
  refine q_loadS (by rfl) (some 12) rfl (.tmp 1) 23 rfl (.pointer (some ⟨w.heap.size, 0, none⟩)) (.agg (ints .i64 g)) rfl (fun w' h => (GC.out w' h).2.2.2.2.2.2) (hK _ ?_)
  simp only [Act.put, List.setIfInBounds_toArray, List.set_cons_zero, List.set_cons_succ]
  clear hK K
  refine wpQuiet_step (fun K hK => ?_)
  refine q_call (by rfl) (some 13) rfl 40 #[.tmp 12] #[23] rfl (fun q w' => by rfl) #[.agg (ints .i64 g)] (by simp only [List.map_toArray, List.map_cons, List.map_nil]; rfl) (.int .i64 z) SR.out (hK _ ?_)
  simp only [Act.put, List.setIfInBounds_toArray, List.set_cons_zero, List.set_cons_succ]
  clear hK K
  refine wpQuiet_step (fun K hK => ?_)
  refine q_val (by rfl) (some 14) rfl (.pointer (some ⟨w.heap.size, 1, none⟩)) (fun w' _ => by go_simp) (hK _ ?_)
  simp only [Act.put, List.setIfInBounds_toArray, List.set_cons_zero, List.set_cons_succ]
  clear hK K
  refine wpQuiet_step (fun K hK => ?_)
  refine q_get (by rfl) (some 15) rfl (.tmp 14) 3 rfl .i64 (gb g 1) w.heap.size (1) rfl Tryd.underlying3 (fun w' h => (GC.out w' h).2.1) (hK _ ?_)
  simp only [Act.put, List.setIfInBounds_toArray, List.set_cons_zero, List.set_cons_succ]
  clear hK K
  refine wpQuiet_step (fun K hK => ?_)
  refine q_val (by rfl) (some 16) rfl (.bool true) (fun w' _ => by go_simp) (hK _ ?_)
  simp only [Act.put, List.setIfInBounds_toArray, List.set_cons_zero, List.set_cons_succ]
  clear hK K
  refine wpQuiet_step (fun K hK => ?_)
  refine q_val (by rfl) (some 17) rfl (.bool true) (fun w' _ => by rfl) (hK _ ?_)
  simp only [Act.put, List.setIfInBounds_toArray, List.set_cons_zero, List.set_cons_succ]
  clear hK K
  refine wpQuiet_step (fun K hK => ?_)
  refine q_skip (by rfl) (some 18) rfl (hK _ ?_)
  simp only [Act.put, List.setIfInBounds_toArray, List.set_cons_zero, List.set_cons_succ]
  clear hK K
  refine wpQuiet_step (fun K hK => ?_)
  refine q_skip (by rfl) (some 19) rfl (hK _ ?_)
  simp only [Act.put, List.setIfInBounds_toArray, List.set_cons_zero, List.set_cons_succ]
  clear hK K
  refine wpQuiet_step (fun K hK => ?_)
  refine q_skip (by rfl) (some 20) rfl (hK _ ?_)
  simp only [Act.put, List.setIfInBounds_toArray, List.set_cons_zero, List.set_cons_succ]
  clear hK K
  refine wpQuiet_step (fun K hK => ?_)
  refine q_skip (by rfl) (some 21) rfl (hK _ ?_)
  simp only [Act.put, List.setIfInBounds_toArray, List.set_cons_zero, List.set_cons_succ]
  clear hK K
  refine wpQuiet_step (fun K hK => ?_)
  refine q_skip (by rfl) (some 22) rfl (hK _ ?_)
  simp only [Act.put, List.setIfInBounds_toArray, List.set_cons_zero, List.set_cons_succ]
  clear hK K
  refine wpQuiet_step (fun K hK => ?_)
  refine q_skip (by rfl) (some 23) rfl (hK _ ?_)
  simp only [Act.put, List.setIfInBounds_toArray, List.set_cons_zero, List.set_cons_succ]
  clear hK K
  refine wpQuiet_step (fun K hK => ?_)
  refine q_val (by rfl) (some 24) rfl (.bool true) (fun w' _ => by rfl) (hK _ ?_)
  simp only [Act.put, List.setIfInBounds_toArray, List.set_cons_zero, List.set_cons_succ]
  clear hK K
  refine wpQuiet_nil ?_
  intro w3 B3
  go_wp2
  go_ret
  exact ⟨rfl, B1.trans ((B2.mono (by omega)).trans (B3.mono (by have := B2.size; omega)))⟩

set_option maxHeartbeats 2000000 in
theorem check_s (g : List Int) (w : World) (hl : g.length = 6) (hk : Kept g) (h16 : gb g 2 % 16 = 0) (hr : rec g ≤ gb g 1) (hs : gb g 0 - 4 < gb g 3 + 3) :
    Calls Tryd.prog 23 #[.agg (ints .i64 g)] w fun x w' => x = .returned (.int .i64 2) ∧ Below w.heap.size w w' := by
  have S : Hid (∀ w, Calls Tryd.prog 39 #[.agg (ints .i64 g)] w fun x w' => x = .returned (.bool true) ∧ Below w.heap.size w w') := fun w => kept_any g w hl true (iff_of_true rfl hk)
  obtain ⟨m, hm⟩ : ∃ m, m = gb g 2 % 16 := ⟨_, rfl⟩
  have q1 : (gb g 2).tmod 16 = m := by rw [hm]; exact Int.tmod_eq_emod_of_nonneg (by obtain ⟨-, -, h, -⟩ := hk; omega)
  have m0 : m = 0 := by omega
  subst m0
  have SR' : Hid (∀ w, Calls Tryd.prog 40 #[.agg (ints .i64 g)] w fun x w' => x = .returned (.int .i64 (rec g)) ∧ Below w.heap.size w w') := fun w => rec_any g w hl hk
  have SD' : Hid (∀ w, Calls Tryd.prog 41 #[.agg (ints .i64 g)] w fun x w' => x = .returned (.int .i64 (gb g 0 - 4)) ∧ Below w.heap.size w w') := fun w => db_any g w hl hk
  have q2 : IntKind.i64.wrap (gb g 3 + 3) = gb g 3 + 3 := by obtain ⟨-, -, -, h, -⟩ := hk; rw [IntKind.wrap_i64]; omega
  have t0 : (0 : Nat) = 0 := rfl
  clear hk h16 hm
  generalize rec g = z at *
  generalize gb g 0 - 4 = y at *
  go_enter Tryd.func23, Tryd.ntmps23
  go_wp2_with (first
    | (go_at_call 39; refine (S.out _).mono ?_; rintro e w2 ⟨rfl, B2⟩; have HX : Hid (Ar w2 w.heap.size 0 .i64 g) := HX.out.below B2 (by omega); obtain ⟨e0, e1, e2, e3, e4, e5⟩ := geo_cells HX.out hl)
    | (have q1 := HX; refine load_lawS _ (by rfl) _ _ rfl (load_geo HX.out hl) ?_)
    | (have q0 := t0; refine box_lawF _ rfl (.tmp 0) 23 rfl .i64 g rfl ?_; intro w1 X1 B1 L1; have HX : Hid (Ar w1 w.heap.size 0 .i64 g) := X1; obtain ⟨f0, f1, f2, f3, f4, f5⟩ := geo_cells X1 hl; clear X1 t0))
  have SR : Hid (∀ w', Below w2.heap.size w2 w' → Calls Tryd.prog 40 #[.agg (ints .i64 g)] w' fun x w'' => x = .returned (.int .i64 z) ∧ Below w2.heap.size w2 w'') := call_class SR'.out w2
  have SD : Hid (∀ w', Below w2.heap.size w2 w' → Calls Tryd.prog 41 #[.agg (ints .i64 g)] w' fun x w'' => x = .returned (.int .i64 y) ∧ Below w2.heap.size w2 w'') := call_class SD'.out w2
  have GC := Hid.mk' (geo_class HX.out hl)
  refine region_quietC (C := fun w' => Below w2.heap.size w2 w') (by kernel_rfl) (by kernel_rfl) (Below.refl _ _).drew ?_
  refine wpQuiet_step (fun K hK => ?_)
  refine q_loadS (by rfl) (some 12) rfl (.tmp 1) 23 rfl (.pointer (some ⟨w.heap.size, 0, none⟩)) (.agg (ints .i64 g)) rfl (fun w' h => (GC.out w' h).2.2.2.2.2.2) (hK _ ?_)
  simp only [Act.put, List.setIfInBounds_toArray, List.set_cons_zero, List.set_cons_succ]
  clear hK K
  refine wpQuiet_step (fun K hK => ?_)
  refine q_call (by rfl) (some 13) rfl 40 #[.tmp 12] #[23] rfl (fun q w' => by rfl) #[.agg (ints .i64 g)] (by simp only [List.map_toArray, List.map_cons, List.map_nil]; rfl) (.int .i64 z) SR.out (hK _ ?_)
  simp only [Act.put, List.setIfInBounds_toArray, List.set_cons_zero, List.set_cons_succ]
  clear hK K
  refine wpQuiet_step (fun K hK => ?_)
  refine q_val (by rfl) (some 14) rfl (.pointer (some ⟨w.heap.size, 1, none⟩)) (fun w' _ => by go_simp) (hK _ ?_)
  simp only [Act.put, List.setIfInBounds_toArray, List.set_cons_zero, List.set_cons_succ]
  clear hK K
  refine wpQuiet_step (fun K hK => ?_)
  refine q_get (by rfl) (some 15) rfl (.tmp 14) 3 rfl .i64 (gb g 1) w.heap.size (1) rfl Tryd.underlying3 (fun w' h => (GC.out w' h).2.1) (hK _ ?_)
  simp only [Act.put, List.setIfInBounds_toArray, List.set_cons_zero, List.set_cons_succ]
  clear hK K
  refine wpQuiet_step (fun K hK => ?_)
  refine q_val (by rfl) (some 16) rfl (.bool false) (fun w' _ => by go_simp) (hK _ ?_)
  simp only [Act.put, List.setIfInBounds_toArray, List.set_cons_zero, List.set_cons_succ]
  clear hK K
  refine wpQuiet_step (fun K hK => ?_)
  refine q_val (by rfl) (some 17) rfl (.bool false) (fun w' _ => by rfl) (hK _ ?_)
  simp only [Act.put, List.setIfInBounds_toArray, List.set_cons_zero, List.set_cons_succ]
  clear hK K
  refine wpQuiet_step (fun K hK => ?_)
  refine q_loadS (by rfl) (some 18) rfl (.tmp 1) 23 rfl (.pointer (some ⟨w.heap.size, 0, none⟩)) (.agg (ints .i64 g)) rfl (fun w' h => (GC.out w' h).2.2.2.2.2.2) (hK _ ?_)
  simp only [Act.put, List.setIfInBounds_toArray, List.set_cons_zero, List.set_cons_succ]
  clear hK K
  refine wpQuiet_step (fun K hK => ?_)
  refine q_call (by rfl) (some 19) rfl 41 #[.tmp 18] #[23] rfl (fun q w' => by rfl) #[.agg (ints .i64 g)] (by simp only [List.map_toArray, List.map_cons, List.map_nil]; rfl) (.int .i64 y) SD.out (hK _ ?_)
  simp only [Act.put, List.setIfInBounds_toArray, List.set_cons_zero, List.set_cons_succ]
  clear hK K
  refine wpQuiet_step (fun K hK => ?_)
  refine q_val (by rfl) (some 20) rfl (.pointer (some ⟨w.heap.size, 3, none⟩)) (fun w' _ => by go_simp) (hK _ ?_)
  simp only [Act.put, List.setIfInBounds_toArray, List.set_cons_zero, List.set_cons_succ]
  clear hK K
  refine wpQuiet_step (fun K hK => ?_)
  refine q_get (by rfl) (some 21) rfl (.tmp 20) 3 rfl .i64 (gb g 3) w.heap.size (3) rfl Tryd.underlying3 (fun w' h => (GC.out w' h).2.2.2.1) (hK _ ?_)
  simp only [Act.put, List.setIfInBounds_toArray, List.set_cons_zero, List.set_cons_succ]
  clear hK K
  refine wpQuiet_step (fun K hK => ?_)
  refine q_val (by rfl) (some 22) rfl (.int .i64 (gb g 3 + 3)) (fun w' _ => by go_simp) (hK _ ?_)
  simp only [Act.put, List.setIfInBounds_toArray, List.set_cons_zero, List.set_cons_succ]
  clear hK K
  refine wpQuiet_step (fun K hK => ?_)
  refine q_val (by rfl) (some 23) rfl (.bool true) (fun w' _ => by go_simp) (hK _ ?_)
  simp only [Act.put, List.setIfInBounds_toArray, List.set_cons_zero, List.set_cons_succ]
  clear hK K
  refine wpQuiet_step (fun K hK => ?_)
  refine q_val (by rfl) (some 24) rfl (.bool true) (fun w' _ => by rfl) (hK _ ?_)
  simp only [Act.put, List.setIfInBounds_toArray, List.set_cons_zero, List.set_cons_succ]
  clear hK K
  refine wpQuiet_nil ?_
  intro w3 B3
  go_wp2
  go_ret
  exact ⟨rfl, B1.trans ((B2.mono (by omega)).trans (B3.mono (by have := B2.size; omega)))⟩

set_option maxHeartbeats 2000000 in
theorem check_o (g : List Int) (w : World) (hl : g.length = 6) (hk : Kept g) (h16 : gb g 2 % 16 = 0) (hr : rec g ≤ gb g 1) (hs : gb g 3 + 3 ≤ gb g 0 - 4) :
    Calls Tryd.prog 23 #[.agg (ints .i64 g)] w fun x w' => x = .returned (.int .i64 0) ∧ Below w.heap.size w w' := by
  have S : Hid (∀ w, Calls Tryd.prog 39 #[.agg (ints .i64 g)] w fun x w' => x = .returned (.bool true) ∧ Below w.heap.size w w') := fun w => kept_any g w hl true (iff_of_true rfl hk)
  obtain ⟨m, hm⟩ : ∃ m, m = gb g 2 % 16 := ⟨_, rfl⟩
  have q1 : (gb g 2).tmod 16 = m := by rw [hm]; exact Int.tmod_eq_emod_of_nonneg (by obtain ⟨-, -, h, -⟩ := hk; omega)
  have m0 : m = 0 := by omega
  subst m0
  have SR' : Hid (∀ w, Calls Tryd.prog 40 #[.agg (ints .i64 g)] w fun x w' => x = .returned (.int .i64 (rec g)) ∧ Below w.heap.size w w') := fun w => rec_any g w hl hk
  have SD' : Hid (∀ w, Calls Tryd.prog 41 #[.agg (ints .i64 g)] w fun x w' => x = .returned (.int .i64 (gb g 0 - 4)) ∧ Below w.heap.size w w') := fun w => db_any g w hl hk
  have q2 : IntKind.i64.wrap (gb g 3 + 3) = gb g 3 + 3 := by obtain ⟨-, -, -, h, -⟩ := hk; rw [IntKind.wrap_i64]; omega
  have t0 : (0 : Nat) = 0 := rfl
  clear hk h16 hm
  generalize rec g = z at *
  generalize gb g 0 - 4 = y at *
  go_enter Tryd.func23, Tryd.ntmps23
  go_wp2_with (first
    | (go_at_call 39; refine (S.out _).mono ?_; rintro e w2 ⟨rfl, B2⟩; have HX : Hid (Ar w2 w.heap.size 0 .i64 g) := HX.out.below B2 (by omega); obtain ⟨e0, e1, e2, e3, e4, e5⟩ := geo_cells HX.out hl)
    | (have q1 := HX; refine load_lawS _ (by rfl) _ _ rfl (load_geo HX.out hl) ?_)
    | (have q0 := t0; refine box_lawF _ rfl (.tmp 0) 23 rfl .i64 g rfl ?_; intro w1 X1 B1 L1; have HX : Hid (Ar w1 w.heap.size 0 .i64 g) := X1; obtain ⟨f0, f1, f2, f3, f4, f5⟩ := geo_cells X1 hl; clear X1 t0))
  have SR : Hid (∀ w', Below w2.heap.size w2 w' → Calls Tryd.prog 40 #[.agg (ints .i64 g)] w' fun x w'' => x = .returned (.int .i64 z) ∧ Below w2.heap.size w2 w'') := call_class SR'.out w2
  have SD : Hid (∀ w', Below w2.heap.size w2 w' → Calls Tryd.prog 41 #[.agg (ints .i64 g)] w' fun x w'' => x = .returned (.int .i64 y) ∧ Below w2.heap.size w2 w'') := call_class SD'.out w2
  have GC := Hid.mk' (geo_class HX.out hl)
  refine region_quietC (C := fun w' => Below w2.heap.size w2 w') (by kernel_rfl) (by kernel_rfl) (Below.refl _ _).drew ?_
  refine wpQuiet_step (fun K hK => ?_)
  refine q_loadS (by rfl) (some 12) rfl (.tmp 1) 23 rfl (.pointer (some ⟨w.heap.size, 0, none⟩)) (.agg (ints .i64 g)) rfl (fun w' h => (GC.out w' h).2.2.2.2.2.2) (hK _ ?_)
  simp only [Act.put, List.setIfInBounds_toArray, List.set_cons_zero, List.set_cons_succ]
  clear hK K
  refine wpQuiet_step (fun K hK => ?_)
  refine q_call (by rfl) (some 13) rfl 40 #[.tmp 12] #[23] rfl (fun q w' => by rfl) #[.agg (ints .i64 g)] (by simp only [List.map_toArray, List.map_cons, List.map_nil]; rfl) (.int .i64 z) SR.out (hK _ ?_)
  simp only [Act.put, List.setIfInBounds_toArray, List.set_cons_zero, List.set_cons_succ]
  clear hK K
  refine wpQuiet_step (fun K hK => ?_)
  refine q_val (by rfl) (some 14) rfl (.pointer (some ⟨w.heap.size, 1, none⟩)) (fun w' _ => by go_simp) (hK _ ?_)
  simp only [Act.put, List.setIfInBounds_toArray, List.set_cons_zero, List.set_cons_succ]
  clear hK K
  refine wpQuiet_step (fun K hK => ?_)
  refine q_get (by rfl) (some 15) rfl (.tmp 14) 3 rfl .i64 (gb g 1) w.heap.size (1) rfl Tryd.underlying3 (fun w' h => (GC.out w' h).2.1) (hK _ ?_)
  simp only [Act.put, List.setIfInBounds_toArray, List.set_cons_zero, List.set_cons_succ]
  clear hK K
  refine wpQuiet_step (fun K hK => ?_)
  refine q_val (by rfl) (some 16) rfl (.bool false) (fun w' _ => by go_simp) (hK _ ?_)
  simp only [Act.put, List.setIfInBounds_toArray, List.set_cons_zero, List.set_cons_succ]
  clear hK K
  refine wpQuiet_step (fun K hK => ?_)
  refine q_val (by rfl) (some 17) rfl (.bool false) (fun w' _ => by rfl) (hK _ ?_)
  simp only [Act.put, List.setIfInBounds_toArray, List.set_cons_zero, List.set_cons_succ]
  clear hK K
  refine wpQuiet_step (fun K hK => ?_)
  refine q_loadS (by rfl) (some 18) rfl (.tmp 1) 23 rfl (.pointer (some ⟨w.heap.size, 0, none⟩)) (.agg (ints .i64 g)) rfl (fun w' h => (GC.out w' h).2.2.2.2.2.2) (hK _ ?_)
  simp only [Act.put, List.setIfInBounds_toArray, List.set_cons_zero, List.set_cons_succ]
  clear hK K
  refine wpQuiet_step (fun K hK => ?_)
  refine q_call (by rfl) (some 19) rfl 41 #[.tmp 18] #[23] rfl (fun q w' => by rfl) #[.agg (ints .i64 g)] (by simp only [List.map_toArray, List.map_cons, List.map_nil]; rfl) (.int .i64 y) SD.out (hK _ ?_)
  simp only [Act.put, List.setIfInBounds_toArray, List.set_cons_zero, List.set_cons_succ]
  clear hK K
  refine wpQuiet_step (fun K hK => ?_)
  refine q_val (by rfl) (some 20) rfl (.pointer (some ⟨w.heap.size, 3, none⟩)) (fun w' _ => by go_simp) (hK _ ?_)
  simp only [Act.put, List.setIfInBounds_toArray, List.set_cons_zero, List.set_cons_succ]
  clear hK K
  refine wpQuiet_step (fun K hK => ?_)
  refine q_get (by rfl) (some 21) rfl (.tmp 20) 3 rfl .i64 (gb g 3) w.heap.size (3) rfl Tryd.underlying3 (fun w' h => (GC.out w' h).2.2.2.1) (hK _ ?_)
  simp only [Act.put, List.setIfInBounds_toArray, List.set_cons_zero, List.set_cons_succ]
  clear hK K
  refine wpQuiet_step (fun K hK => ?_)
  refine q_val (by rfl) (some 22) rfl (.int .i64 (gb g 3 + 3)) (fun w' _ => by go_simp) (hK _ ?_)
  simp only [Act.put, List.setIfInBounds_toArray, List.set_cons_zero, List.set_cons_succ]
  clear hK K
  refine wpQuiet_step (fun K hK => ?_)
  refine q_val (by rfl) (some 23) rfl (.bool false) (fun w' _ => by go_simp) (hK _ ?_)
  simp only [Act.put, List.setIfInBounds_toArray, List.set_cons_zero, List.set_cons_succ]
  clear hK K
  refine wpQuiet_step (fun K hK => ?_)
  refine q_val (by rfl) (some 24) rfl (.bool false) (fun w' _ => by rfl) (hK _ ?_)
  simp only [Act.put, List.setIfInBounds_toArray, List.set_cons_zero, List.set_cons_succ]
  clear hK K
  refine wpQuiet_nil ?_
  intro w3 B3
  go_wp2
  go_ret
  exact ⟨rfl, B1.trans ((B2.mono (by omega)).trans (B3.mono (by have := B2.size; omega)))⟩

theorem check_yes (g : List Int) (hl : g.length = 6) (h : Rt g) (w : World) :
    Calls Tryd.prog 23 #[.agg (ints .i64 g)] w fun x w' => x = .returned (.int .i64 0) ∧ Below w.heap.size w w' := check_o g w hl h.1 h.2.1 h.2.2.1 h.2.2.2
theorem check_no (g : List Int) (hl : g.length = 6) (h : ¬ Rt g) (w : World) :
    Calls Tryd.prog 23 #[.agg (ints .i64 g)] w fun x w' => x = .returned (.int .i64 2) ∧ Below w.heap.size w w' := by
  by_cases hk : Kept g
  · by_cases h1 : gb g 2 % 16 = 0
    · by_cases h2 : rec g ≤ gb g 1
      · exact check_s g w hl hk h1 h2 (Int.not_le.1 fun h3 => h ⟨hk, h1, h2, h3⟩)
      · exact check_r g w hl hk h1 (Int.not_le.1 h2)
    · exact check_m g w hl hk h1
  · exact check_k g w hl hk
end Go.Proofs.YtpmakkjcpoillaaDoor.ge
