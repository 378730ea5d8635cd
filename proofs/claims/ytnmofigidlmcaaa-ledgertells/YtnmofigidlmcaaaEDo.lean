/- What ledger's changes do to a block. No claim of its own. -/
import Derived.Test.YtnmofigidlmcaaaENew
import Derived.Deep.RegionWith
namespace Go.Proofs.Ytnmofigidlmcaaa.le
open Go.RowKit Go.Proofs.Ytnmofigidlmcaaa.he
set_option maxRecDepth 20000

abbrev pq (d q : Nat) : Value := .pointer (some ⟨d, q, none⟩)
theorem At.drew {w : World} {d q : Nat} {cs : List Value} (h : At w d q cs) : At w.drew d q cs := h.heap rfl
theorem Wrt.drew {d q : Nat} {w w' : World} (h : Wrt d q w w') : Wrt d q w w'.drew := h.drewN 1
/-- one cell of a block's is written -/
theorem bset {w : World} {d q : Nat} {x : Bk} (h : At w d q x.cs) (j : Nat) (hj : j < 9) (v : Value) (y : Bk) (hy : x.cs.set j v = y.cs) : At (w.setCell ⟨d, q + j, none⟩ v) d q y.cs := hy ▸ h.set j hj v
theorem heap_cells (d : Nat) : ∀ (vs : List Value) (o : Nat) (w : World) (k : Nat), k ≠ d → (w.setCells d o vs).heap[k]? = w.heap[k]?
  | [], _, _, _, _ => rfl
  | v :: r, o, w, k, h => (heap_cells d r (o + 1) (w.setCell ⟨d, o, none⟩ v) k h).trans (Below.heap_setCell w ⟨d, o, none⟩ v k h)
theorem wrt_cells (w : World) (d q : Nat) (y : Bk) : Wrt d q w (w.setCells d q y.cs) := by
  have hb := below_cells (B := 0) d (Nat.zero_le _) y.cs q (Below.refl 0 w)
  refine ⟨⟨hb.os, hb.tape, hb.output, hb.size, fun k _ hr => heap_cells d y.cs q w k (fun e => hr (by rw [e]))⟩, fun j hj => ⟨?_, World.frozen?_setCells ..⟩⟩
  exact World.cell?_setCells_out d y.cs q w ⟨d, j, none⟩ (fun _ _ => by show j < q ∨ q + 9 ≤ j; exact hj)
section
variable {ops : Array Oper} {o : Oper} {a : Act} {Q : Exit → Act → World → Prop} {K : Act → World → Prop} {E : Prop}
/-- a block is written, in a region that draws its order -/
theorem step_storeB (w : World) (hg : o.guard = none) (d0 : Option Tmp) (hd : o.dst = d0) (x y : Operand) (t : TypeId) (hop : o.op = Op.store t x y) (d q : Nat) (z old : Bk) (hx : a.eval x = pq d q) (hy : a.eval y = .agg z.cs.toArray) (hA : At w d q old.cs) (hs : (Try.prog.info? t).map (·.size) = some 9)
    (hK : ∀ w', At w' d q z.cs → Wrt d q w w' → K (a.put d0 undef) w') : if Region.wanted o (yielded ops a.tmps) = true then Oper.wp Try.prog o a w K Q else E := by
  have hw : Region.wanted o (yielded ops a.tmps) = true := by simp [Region.wanted, hg]
  rw [if_pos hw]
  subst hd
  have ht : w.there d q 9 := hA.2
  refine wp_store_mid t x y hop d q z.cs.toArray hx hy ht hs (all_oneCell_toArray z.one) ?_
  exact hK _ ⟨World.rangeAt_setCells_same w d q z.cs ht, World.there_setCells ht d q _⟩ (wrt_cells w d q z)
end
theorem failed1 (d q : Nat) (x : Bk) (w : World) (hx : At w d q x.cs) : Calls Try.prog 60 #[pq d q] w fun e w' => e = .returned (.tuple #[]) ∧ At w' d q (Bk.cs { x with b := true }) ∧ Wrt d q w w' := by
  have nn := nine hx.1
  have z6 := hx.free 6 (show (6 : Nat) < 9 by decide)
  have HX : Hid (At w d q x.cs) := hx
  clear hx
  go_enter Try.func60, Try.ntmps60
  go_wp2
  refine bodyPost_end (v := .tuple #[]) (results_none rfl _ _ _) rfl ⟨rfl, ?_, ?_⟩
  · exact (bset HX.out 6 (by omega) _ { x with b := true } rfl)
  · exact ((Wrt.refl _ _ _).set 6 (by omega) _)

theorem release1 (d q : Nat) (x : Bk) (w : World) (hx : At w d q x.cs) : Calls Try.prog 59 #[pq d q] w fun e w' => e = .returned (.tuple #[]) ∧ At w' d q (Bk.cs { x with h := false, l := 0 }) ∧ Wrt d q w w' := by
  have nn := nine hx.1
  have z2 := hx.free 2 (show (2 : Nat) < 9 by decide)
  have z4 := hx.free 4 (show (4 : Nat) < 9 by decide)
  have HX : Hid (At w d q x.cs) := hx
  clear hx
  go_enter Try.func59, Try.ntmps59
  go_wp2
  refine bodyPost_end (v := .tuple #[]) (results_none rfl _ _ _) rfl ⟨rfl, ?_, ?_⟩
  · exact (bset (bset HX.out 4 (by omega) _ { x with h := false } rfl) 2 (by omega) _ { x with h := false, l := 0 } rfl)
  · exact (((Wrt.refl _ _ _).set 4 (by omega) _).set 2 (by omega) _)

theorem hold1 (d q : Nat) (x : Bk) (c : Nat) (s : Int) (w : World) (hx : At w d q x.cs) (hc : w.cell? ⟨c, 0, none⟩ = some (.int .i64 s)) : Calls Try.prog 58 #[pq d q, pt c] w fun e w' => e = .returned (.tuple #[]) ∧ At w' d q (Bk.cs { x with o := s, h := true, c := false, u := 0, l := 0 }) ∧ Wrt d q w w' := by
  have nn := nine hx.1
  have z0 := hx.free 0 (show (0 : Nat) < 9 by decide)
  have z1 := hx.free 1 (show (1 : Nat) < 9 by decide)
  have z2 := hx.free 2 (show (2 : Nat) < 9 by decide)
  have z4 := hx.free 4 (show (4 : Nat) < 9 by decide)
  have z5 := hx.free 5 (show (5 : Nat) < 9 by decide)
  rw [Nat.add_zero] at z0
  have HX : Hid (At w d q x.cs) := hx
  clear hx
  go_enter Try.func58, Try.ntmps58
  go_wp2
  refine bodyPost_end (v := .tuple #[]) (results_none rfl _ _ _) rfl ⟨rfl, ?_, ?_⟩
  · exact (bset (bset (bset (bset (bset HX.out 0 (by omega) _ { x with o := s } rfl) 4 (by omega) _ { x with o := s, h := true } rfl) 5 (by omega) _ { x with o := s, h := true, c := false } rfl) 1 (by omega) _ { x with o := s, h := true, c := false, u := 0 } rfl) 2 (by omega) _ { x with o := s, h := true, c := false, u := 0, l := 0 } rfl)
  · exact ((((((Wrt.refl _ _ _).set 0 (by omega) _).set 4 (by omega) _).set 5 (by omega) _).set 1 (by omega) _).set 2 (by omega) _)

theorem use1 (d q : Nat) (x : Bk) (w : World) (hx : At w d q x.cs) (h0 : 0 ≤ x.u) (h1 : x.u ≤ 1000000000) : Calls Try.prog 62 #[pq d q] w fun e w' => e = .returned (.tuple #[]) ∧ At w' d q (Bk.cs { x with u := x.u + 1 }) ∧ Wrt d q w w' := by
  have nn := nine hx.1
  have z1 := hx.free 1 (show (1 : Nat) < 9 by decide)
  have HX : Hid (At w d q x.cs) := hx
  clear hx
  go_enter Try.func62, Try.ntmps62
  go_wp2_with (go_at_call 56; refine (sum_any _ _ _ (by omega) (by omega) (by omega) (by omega)).mono ?_; rintro e w' ⟨rfl, hw⟩; obtain rfl := hw.symm)
  refine bodyPost_end (v := .tuple #[]) (results_none rfl _ _ _) rfl ⟨rfl, ?_, ?_⟩
  · exact (bset HX.out 1 (by omega) _ { x with u := x.u + 1 } rfl)
  · exact ((Wrt.refl _ _ _).set 1 (by omega) _)

theorem scrub1 (d q : Nat) (x : Bk) (c : Nat) (t : Bool) (w : World) (hx : At w d q x.cs) (hc : w.cell? ⟨c, 0, none⟩ = some (.bool t)) (_hd : c ≠ d) : Calls Try.prog 61 #[pq d q, pt c] w fun e w' => e = .returned (.tuple #[]) ∧ At w' d q (Bk.cs { x with b := true, c := false, h := false, g := t, k := !t }) ∧ Wrt d q w w' := by
  have nn := nine hx.1
  have z4 := hx.free 4 (show (4 : Nat) < 9 by decide)
  have z5 := hx.free 5 (show (5 : Nat) < 9 by decide)
  have z6 := hx.free 6 (show (6 : Nat) < 9 by decide)
  have z7 := hx.free 7 (show (7 : Nat) < 9 by decide)
  have z8 := hx.free 8 (show (8 : Nat) < 9 by decide)
  have HX : Hid (At w d q x.cs) := hx
  clear hx
  go_enter Try.func61, Try.ntmps61
  go_wp2
  go_region
  refine bodyPost_end (v := .tuple #[]) (results_none rfl _ _ _) rfl ⟨rfl, At.drew (bset (bset (bset (bset (bset HX.out 6 (by omega) _ { x with b := true } rfl) 5 (by omega) _ { x with b := true, c := false } rfl) 4 (by omega) _ { x with b := true, c := false, h := false } rfl) 7 (by omega) _ { x with b := true, c := false, h := false, g := t } rfl) 8 (by omega) _ { x with b := true, c := false, h := false, g := t, k := !t } rfl), ?_⟩
  exact Wrt.drew ((((((Wrt.refl _ _ _).set 6 (by omega) _).set 5 (by omega) _).set 4 (by omega) _).set 7 (by omega) _).set 8 (by omega) _)

theorem count1 (d q : Nat) (x : Bk) (c : Nat) (m : Int) (w : World) (hx : At w d q x.cs) (hc : w.cell? ⟨c, 0, none⟩ = some (.int .i64 m)) (h0 : 0 ≤ x.l) (h1 : x.l ≤ 1000000000) (h2 : -9223372036854775808 ≤ m) (h3 : m ≤ 1000000) : Calls Try.prog 63 #[pq d q, pt c] w fun e w' => e = .returned (.tuple #[]) ∧ At w' d q (Bk.cs { x with l := if m < -x.l then 0 else x.l + m }) ∧ Wrt d q w w' := by
  have nn := nine hx.1
  have z2 := hx.free 2 (show (2 : Nat) < 9 by decide)
  have HX : Hid (At w d q x.cs) := hx
  clear hx
  go_enter Try.func63, Try.ntmps63
  go_wp2
  go_region_with (go_at_call 56; refine (sum_any _ _ _ (by omega) (by omega) (by omega) (by omega)).mono ?_; rintro e w' ⟨rfl, hw⟩; obtain rfl := hw.symm)
  all_goals refine bodyPost_end (v := .tuple #[]) (results_none rfl _ _ _) rfl ⟨rfl, At.drew (bset HX.out 2 (by omega) _ _ ?_), Wrt.drew ((Wrt.refl _ _ _).set 2 (by omega) _)⟩
  all_goals (by_cases hz : m < -x.l)
  · rw [if_pos hz, if_neg (show ¬ 0 < x.l + m by omega)]; rfl
  · rw [if_neg hz]; by_cases hz2 : 0 < x.l + m
    · rw [if_pos hz2]; rfl
    · rw [if_neg hz2, show x.l + m = 0 by omega]; rfl
  · rw [if_pos hz, if_neg (show ¬ 0 < x.l + m by omega)]; rfl
  · rw [if_neg hz]; by_cases hz2 : 0 < x.l + m
    · rw [if_pos hz2]; rfl
    · rw [if_neg hz2, show x.l + m = 0 by omega]; rfl

theorem erased1 (d q : Nat) (x : Bk) (w : World) (hx : At w d q x.cs) (h0 : 0 ≤ x.e) (h1 : x.e ≤ 1000000000) : Calls Try.prog 55 #[pq d q] w fun e w' => e = .returned (.tuple #[]) ∧ At w' d q (Bk.cs ⟨-2, 0, 0, x.e + 1, false, true, x.b, false, false⟩) ∧ Wrt d q w w' := by
  have nn := nine hx.1
  have z0 := hx.free 0 (show (0 : Nat) < 9 by decide)
  rw [Nat.add_zero] at z0
  have HX : Hid (At w d q x.cs) := hx
  clear hx
  go_enter Try.func55, Try.ntmps55
  go_wp2
  have S : Hid (∀ w, Calls Try.prog 56 #[.int .i64 x.e, .int .i64 1] w fun e w' => e = .returned (.int .i64 (x.e + 1)) ∧ w' = w) := fun w => sum_any _ _ w (by omega) (by omega) (by omega) (by omega)
  refine wp_region_any (by kernel_rfl) ?_
  change wpAny _ _ _ _ _ _ _ (World.drew _)
  refine wpAny_quiet_then (C := fun w' => ∃ n, w' = w.drewN n) 0 12 1 _ (by kernel_rfl) rfl (by kernel_rfl) (by kernel_rfl) ⟨1, rfl⟩ ?_
  simp only [List.take_succ_cons, List.take_zero, List.drop_zero]
  repeat (quiet_step (first
    | with_reducible exact Calls.quiet_of_same (S.out _)))
  refine wpQuiet_nil ?_
  rintro f _ ⟨nq, rfl⟩
  refine wpAny_ready (rs := [12]) (by kernel_rfl) (by simp) ?_
  refine AllReady.cons rfl (fun K hK => ?_) AllReady.nil
  refine step_storeB (w.drewN nq) rfl none rfl (.tmp 13) (.tmp 12) 39 rfl d q ⟨-2, 0, 0, x.e + 1, false, true, x.b, false, false⟩ x rfl rfl (HX.out.heap rfl) size_lblk ?_
  intro w2 A2 W2
  refine hK _ _ ?_
  refine wpAny_done (by kernel_rfl) ?_ _
  go_wp2
  refine bodyPost_end (v := .tuple #[]) (results_none rfl _ _ _) rfl ⟨rfl, A2, ?_⟩
  exact ⟨⟨W2.1.os, W2.1.tape, W2.1.output, W2.1.size, W2.1.block⟩, W2.2⟩

end Go.Proofs.Ytnmofigidlmcaaa.le
