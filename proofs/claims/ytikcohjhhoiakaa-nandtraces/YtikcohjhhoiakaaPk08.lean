/- Texts put together. -/
import Derived.Test.YtikcohjhhoiakaaPk07
import Derived.Test.YtikcohjhhoiakaaPk01
import Derived.Test.YtikcohjhhoiakaaPk06
import Derived.Deep.DeepCutAuto
set_option maxHeartbeats 8000000
namespace Go.Proofs.Ytikcohjhhoiakaa.ge
open Go.RowKit
set_option maxRecDepth 20000
theorem place_cells {w : World} {b : Nat} {g : List Int} (h : Ar w b 0 .i64 g) (hl : g.length = 2) : w.cell? ⟨b, 0, none⟩ = some (.int .i64 (gb g 0)) ∧ w.cell? ⟨b, 1, none⟩ = some (.int .i64 (gb g 1)) :=
 ⟨h.cell0 0 (by omega), h.cell0 1 (by omega)⟩
theorem index_wrong (g p : List Int) (hl : g.length = 6) (hp : p.length = 2) (h : ¬ Rt g) (w : World) :
  Calls Try.prog 69 #[.agg (ints .i64 g), .agg (ints .i64 p)] w fun x w' => x = .returned (.tuple #[.int .i64 0, .int .i64 2]) ∧ Below w.heap.size w w' := by
 have S : Hid (∀ w, Calls Try.prog 33 #[.agg (ints .i64 g)] w fun x w' => x = .returned (.int .i64 2) ∧ Below w.heap.size w w') := check_no g hl h
 clear h
 have t0 := tR
 go_enter Try.func69, Try.ntmps69
 go_wp2_with (first
  | (have q2 := t2; go_at_call 33; refine (S.out _).mono ?_; rintro e w3 ⟨rfl, B3⟩; have HX := hdH (HX.out.below B3 (HX.out.lt (by omega))); obtain ⟨e0, e1, e2, e3, e4, e5⟩ := geo_cells HX.out hl; have HP := hdH (HP.out.below B3 (HP.out.lt (by omega))); obtain ⟨p0, p1⟩ := place_cells HP.out hp; have BB := bT BB B3; clear B3 t2)
  | (have q9 := HX; refine load_lawS _ (by rfl) _ _ rfl (load_geo HX.out hl) ?_)
  | (have q1 := t1; refine box_lawF _ rfl (.tmp 1) 43 rfl .i64 p rfl ?_; intro w2 X2 B2 L2; have HP := hdH (X2); have HX := hdH (HX.out.below B2 L1); have BB := bT BB B2; have t2 := tR; clear X2 t1 B2)
  | (have q0 := t0; refine box_lawF _ rfl (.tmp 0) 23 rfl .i64 g rfl ?_; intro w1 X1 B1 L1; have HX := hdH (X1); have BB := hdH (B1); have t1 := tR; clear X1 t0 B1))
 go_ret2
 exact ⟨rfl, BB.out⟩
theorem index_n0 (g p : List Int) (hl : g.length = 6) (hp : p.length = 2) (h : Rt g) (h0 : gb p 0 < 0) (w : World) :
  Calls Try.prog 69 #[.agg (ints .i64 g), .agg (ints .i64 p)] w fun x w' => x = .returned (.tuple #[.int .i64 0, .int .i64 2]) ∧ Below w.heap.size w w' := by
 have S : Hid (∀ w, Calls Try.prog 33 #[.agg (ints .i64 g)] w fun x w' => x = .returned (.int .i64 0) ∧ Below w.heap.size w w') := check_yes g hl h
 clear h
 have t0 := tR
 go_enter Try.func69, Try.ntmps69
 go_wp2_with (first
  | (have q2 := t2; go_at_call 33; refine (S.out _).mono ?_; rintro e w3 ⟨rfl, B3⟩; have HX := hdH (HX.out.below B3 (HX.out.lt (by omega))); obtain ⟨e0, e1, e2, e3, e4, e5⟩ := geo_cells HX.out hl; have HP := hdH (HP.out.below B3 (HP.out.lt (by omega))); obtain ⟨p0, p1⟩ := place_cells HP.out hp; have BB := bT BB B3; clear B3 t2)
  | (have q9 := HX; refine load_lawS _ (by rfl) _ _ rfl (load_geo HX.out hl) ?_)
  | (have q1 := t1; refine box_lawF _ rfl (.tmp 1) 43 rfl .i64 p rfl ?_; intro w2 X2 B2 L2; have HP := hdH (X2); have HX := hdH (HX.out.below B2 L1); have BB := bT BB B2; have t2 := tR; clear X2 t1 B2)
  | (have q0 := t0; refine box_lawF _ rfl (.tmp 0) 23 rfl .i64 g rfl ?_; intro w1 X1 B1 L1; have HX := hdH (X1); have BB := hdH (B1); have t1 := tR; clear X1 t0 B1))
 go_ret2
 exact ⟨rfl, BB.out⟩
theorem index_n1 (g p : List Int) (hl : g.length = 6) (hp : p.length = 2) (h : Rt g) (h0 : ¬ gb p 0 < 0) (h1 : gb g 0 ≤ gb p 0) (w : World) :
  Calls Try.prog 69 #[.agg (ints .i64 g), .agg (ints .i64 p)] w fun x w' => x = .returned (.tuple #[.int .i64 0, .int .i64 2]) ∧ Below w.heap.size w w' := by
 have S : Hid (∀ w, Calls Try.prog 33 #[.agg (ints .i64 g)] w fun x w' => x = .returned (.int .i64 0) ∧ Below w.heap.size w w') := check_yes g hl h
 clear h
 have t0 := tR
 go_enter Try.func69, Try.ntmps69
 go_wp2_with (first
  | (have q2 := t2; go_at_call 33; refine (S.out _).mono ?_; rintro e w3 ⟨rfl, B3⟩; have HX := hdH (HX.out.below B3 (HX.out.lt (by omega))); obtain ⟨e0, e1, e2, e3, e4, e5⟩ := geo_cells HX.out hl; have HP := hdH (HP.out.below B3 (HP.out.lt (by omega))); obtain ⟨p0, p1⟩ := place_cells HP.out hp; have BB := bT BB B3; clear B3 t2)
  | (have q9 := HX; refine load_lawS _ (by rfl) _ _ rfl (load_geo HX.out hl) ?_)
  | (have q1 := t1; refine box_lawF _ rfl (.tmp 1) 43 rfl .i64 p rfl ?_; intro w2 X2 B2 L2; have HP := hdH (X2); have HX := hdH (HX.out.below B2 L1); have BB := bT BB B2; have t2 := tR; clear X2 t1 B2)
  | (have q0 := t0; refine box_lawF _ rfl (.tmp 0) 23 rfl .i64 g rfl ?_; intro w1 X1 B1 L1; have HX := hdH (X1); have BB := hdH (B1); have t1 := tR; clear X1 t0 B1))
 go_ret2
 exact ⟨rfl, BB.out⟩
theorem index_n2 (g p : List Int) (hl : g.length = 6) (hp : p.length = 2) (h : Rt g) (h0 : ¬ gb p 0 < 0) (h1 : ¬ gb g 0 ≤ gb p 0) (h2 : gb p 1 < 0) (w : World) :
  Calls Try.prog 69 #[.agg (ints .i64 g), .agg (ints .i64 p)] w fun x w' => x = .returned (.tuple #[.int .i64 0, .int .i64 2]) ∧ Below w.heap.size w w' := by
 have S : Hid (∀ w, Calls Try.prog 33 #[.agg (ints .i64 g)] w fun x w' => x = .returned (.int .i64 0) ∧ Below w.heap.size w w') := check_yes g hl h
 clear h
 have t0 := tR
 go_enter Try.func69, Try.ntmps69
 go_wp2_with (first
  | (have q2 := t2; go_at_call 33; refine (S.out _).mono ?_; rintro e w3 ⟨rfl, B3⟩; have HX := hdH (HX.out.below B3 (HX.out.lt (by omega))); obtain ⟨e0, e1, e2, e3, e4, e5⟩ := geo_cells HX.out hl; have HP := hdH (HP.out.below B3 (HP.out.lt (by omega))); obtain ⟨p0, p1⟩ := place_cells HP.out hp; have BB := bT BB B3; clear B3 t2)
  | (have q9 := HX; refine load_lawS _ (by rfl) _ _ rfl (load_geo HX.out hl) ?_)
  | (have q1 := t1; refine box_lawF _ rfl (.tmp 1) 43 rfl .i64 p rfl ?_; intro w2 X2 B2 L2; have HP := hdH (X2); have HX := hdH (HX.out.below B2 L1); have BB := bT BB B2; have t2 := tR; clear X2 t1 B2)
  | (have q0 := t0; refine box_lawF _ rfl (.tmp 0) 23 rfl .i64 g rfl ?_; intro w1 X1 B1 L1; have HX := hdH (X1); have BB := hdH (B1); have t1 := tR; clear X1 t0 B1))
 go_ret2
 exact ⟨rfl, BB.out⟩
theorem index_n3 (g p : List Int) (hl : g.length = 6) (hp : p.length = 2) (h : Rt g) (h0 : ¬ gb p 0 < 0) (h1 : ¬ gb g 0 ≤ gb p 0) (h2 : ¬ gb p 1 < 0) (h3 : gb g 1 ≤ gb p 1) (w : World) :
  Calls Try.prog 69 #[.agg (ints .i64 g), .agg (ints .i64 p)] w fun x w' => x = .returned (.tuple #[.int .i64 0, .int .i64 2]) ∧ Below w.heap.size w w' := by
 have S : Hid (∀ w, Calls Try.prog 33 #[.agg (ints .i64 g)] w fun x w' => x = .returned (.int .i64 0) ∧ Below w.heap.size w w') := check_yes g hl h
 clear h
 have t0 := tR
 go_enter Try.func69, Try.ntmps69
 go_wp2_with (first
  | (have q2 := t2; go_at_call 33; refine (S.out _).mono ?_; rintro e w3 ⟨rfl, B3⟩; have HX := hdH (HX.out.below B3 (HX.out.lt (by omega))); obtain ⟨e0, e1, e2, e3, e4, e5⟩ := geo_cells HX.out hl; have HP := hdH (HP.out.below B3 (HP.out.lt (by omega))); obtain ⟨p0, p1⟩ := place_cells HP.out hp; have BB := bT BB B3; clear B3 t2)
  | (have q9 := HX; refine load_lawS _ (by rfl) _ _ rfl (load_geo HX.out hl) ?_)
  | (have q1 := t1; refine box_lawF _ rfl (.tmp 1) 43 rfl .i64 p rfl ?_; intro w2 X2 B2 L2; have HP := hdH (X2); have HX := hdH (HX.out.below B2 L1); have BB := bT BB B2; have t2 := tR; clear X2 t1 B2)
  | (have q0 := t0; refine box_lawF _ rfl (.tmp 0) 23 rfl .i64 g rfl ?_; intro w1 X1 B1 L1; have HX := hdH (X1); have BB := hdH (B1); have t1 := tR; clear X1 t0 B1))
 go_ret2
 exact ⟨rfl, BB.out⟩
theorem index_yes (g p : List Int) (hl : g.length = 6) (hp : p.length = 2) (h : Rt g) (h0 : ¬ gb p 0 < 0) (h1 : ¬ gb g 0 ≤ gb p 0) (h2 : ¬ gb p 1 < 0) (h3 : ¬ gb g 1 ≤ gb p 1) (w : World) :
  Calls Try.prog 69 #[.agg (ints .i64 g), .agg (ints .i64 p)] w fun x w' => x = .returned (.tuple #[.int .i64 (gb p 0 * gb g 1 + gb p 1), .int .i64 0]) ∧ Below w.heap.size w w' := by
 have S : Hid (∀ w, Calls Try.prog 33 #[.agg (ints .i64 g)] w fun x w' => x = .returned (.int .i64 0) ∧ Below w.heap.size w w') := check_yes g hl h
 obtain ⟨m, hm⟩ : ∃ m, m = gb p 0 * gb g 1 := ⟨_, rfl⟩
 have m0 : 0 ≤ m := by rw [hm]; exact Int.mul_nonneg (by omega) (by obtain ⟨⟨-, h, -⟩, -⟩ := h; omega)
 have m1 : m ≤ 64 * 32 := by rw [hm]; exact Int.mul_le_mul (by obtain ⟨⟨h, -⟩, -⟩ := h; omega) (by obtain ⟨⟨-, h, -⟩, -⟩ := h; omega) (by obtain ⟨⟨-, h, -⟩, -⟩ := h; omega) (by omega)
 have qm : gb p 0 * gb g 1 = m := hm.symm
 rw [qm]
 have q1 : IntKind.i64.wrap m = m := by rw [IntKind.wrap_i64]; omega
 have q2 : IntKind.i64.wrap (m + gb p 1) = m + gb p 1 := by obtain ⟨⟨-, h, -⟩, -⟩ := h; rw [IntKind.wrap_i64]; omega
 obtain ⟨z, hz⟩ : ∃ z, m + gb p 1 = z := ⟨_, rfl⟩
 rw [hz] at q2 ⊢
 clear h hm m0 m1
 have t0 := tR
 go_enter Try.func69, Try.ntmps69
 go_wp2_with (first
  | (have q2 := t2; go_at_call 33; refine (S.out _).mono ?_; rintro e w3 ⟨rfl, B3⟩; have HX := hdH (HX.out.below B3 (HX.out.lt (by omega))); obtain ⟨e0, e1, e2, e3, e4, e5⟩ := geo_cells HX.out hl; have HP := hdH (HP.out.below B3 (HP.out.lt (by omega))); obtain ⟨p0, p1⟩ := place_cells HP.out hp; have BB := bT BB B3; clear B3 t2)
  | (have q9 := HX; refine load_lawS _ (by rfl) _ _ rfl (load_geo HX.out hl) ?_)
  | (have q1 := t1; refine box_lawF _ rfl (.tmp 1) 43 rfl .i64 p rfl ?_; intro w2 X2 B2 L2; have HP := hdH (X2); have HX := hdH (HX.out.below B2 L1); have BB := bT BB B2; have t2 := tR; clear X2 t1 B2)
  | (have q0 := t0; refine box_lawF _ rfl (.tmp 0) 23 rfl .i64 g rfl ?_; intro w1 X1 B1 L1; have HX := hdH (X1); have BB := hdH (B1); have t1 := tR; clear X1 t0 B1))
 go_ret2
 exact ⟨rfl, BB.out⟩
def Pg (g p : List Int) : Prop := ¬ gb p 0 < 0 ∧ ¬ gb g 0 ≤ gb p 0 ∧ ¬ gb p 1 < 0 ∧ ¬ gb g 1 ≤ gb p 1
theorem index_no (g p : List Int) (hl : g.length = 6) (hp : p.length = 2) (h : ¬ (Rt g ∧ Pg g p)) (w : World) :
  Calls Try.prog 69 #[.agg (ints .i64 g), .agg (ints .i64 p)] w fun x w' => x = .returned (.tuple #[.int .i64 0, .int .i64 2]) ∧ Below w.heap.size w w' := by
 by_cases hr : Rt g
 ·by_cases h0 : gb p 0 < 0
  ·exact index_n0 g p hl hp hr h0 w
  ·by_cases h1 : gb g 0 ≤ gb p 0
   ·exact index_n1 g p hl hp hr h0 h1 w
   ·by_cases h2 : gb p 1 < 0
    ·exact index_n2 g p hl hp hr h0 h1 h2 w
    ·exact index_n3 g p hl hp hr h0 h1 h2 (Int.not_lt.1 fun h3 => h ⟨hr, h0, h1, h2, fun h4 => by omega⟩) w
 ·exact index_wrong g p hl hp hr w
section
variable {ops : Array Oper} {o : Oper} {a : Act} {Q : Exit → Act → World → Prop} {K : Act → World → Prop} {E : Prop}
theorem step_callW (w : World) (hw : Region.wanted o (yielded ops a.tmps) = true) (d : Option Tmp) (hd : o.dst = d) (f : FuncId) (args : Array Operand) (ats : Array TypeId) (hop : o.op = .call { callee := .value (.func f), args := args, argTypes := ats })
  (hcf : ∀ (q : Array Value) (w : World), (callFunc f q).run Try.prog w = .ok (.enter f q) w) (vs : Array Value) (hx : args.map a.eval = vs) (R : Value → World → Prop) (hc : Calls Try.prog f vs w fun e w' => ∃ v, e = .returned v ∧ R v w') (hK : ∀ v w', R v w' → K (a.put d v) w') : if Region.wanted o (yielded ops a.tmps) = true then Oper.wp Try.prog o a w K Q else E := by
 rw [if_pos hw]
 subst hd
 subst hx
 unfold Oper.wp
 simp only [execOp, hop]
 go_simp
 refine hc.mono ?_
 rintro e w' ⟨v, rfl, hr⟩
 exact hK v w' hr
end
end Go.Proofs.Ytikcohjhhoiakaa.ge
namespace Go.Proofs.Ytikcohjhhoiakaa.na
open Go.RowKit Go.Proofs.Ytikcohjhhoiakaa.fa
set_option maxRecDepth 20000
theorem index_nat (g p : List Int) (hl : g.length = 6) (hp : p.length = 2) (h : ge.Rt g) (N P b j : Nat) (g0 : gb g 0 = N) (g1 : gb g 1 = P) (e0 : gb p 0 = b) (e1 : gb p 1 = j) (hb : b < N) (hj : j < P) (w : World) :
  Calls Try.prog 69 #[.agg (ints .i64 g), .agg (ints .i64 p)] w fun x w' => x = .returned (.tuple #[.int .i64 ((b * P + j : Nat) : Int), .int .i64 0]) ∧ Below w.heap.size w w' := by
 have := ge.index_yes g p hl hp h (by omega) (by omega) (by omega) (by omega) w
 rw [e0, e1, g1] at this
 have e : ((b * P + j : Nat) : Int) = (b : Int) * (P : Int) + (j : Int) := by simp
 rw [e]; exact this
theorem index_none (g p : List Int) (hl : g.length = 6) (hp : p.length = 2) (N P : Nat) (g0 : gb g 0 = N) (g1 : gb g 1 = P) (h : ¬ (0 ≤ gb p 0 ∧ gb p 0 < N ∧ 0 ≤ gb p 1 ∧ gb p 1 < P)) (w : World) :
  Calls Try.prog 69 #[.agg (ints .i64 g), .agg (ints .i64 p)] w fun x w' => x = .returned (.tuple #[.int .i64 0, .int .i64 2]) ∧ Below w.heap.size w w' :=
 ge.index_no g p hl hp (fun q => h (by obtain ⟨-, a, b, c, d⟩ := q; omega)) w
theorem idx_fits {N P S b j : Nat} (hb : b < N) (hj : j < P) : (b * P + j + 1) * S ≤ N * (P * S) ∧ b * P + j < N * P := by
 have h1 : b * P + j + 1 ≤ N * P := by
  have := Nat.mul_le_mul_right P (show b + 1 ≤ N by omega)
  rw [Nat.succ_mul] at this; omega
 have := Nat.mul_le_mul_right S h1
 rw [Nat.mul_assoc] at this
 exact ⟨this, by omega⟩
theorem psize_nat (g : List Int) (hl : g.length = 6) (h : ge.Rt g) (S : Nat) (e : gb g 2 + 88 = S) (w : World) :
  Calls Try.prog 37 #[.agg (ints .i64 g)] w fun x w' => x = .returned (.int .i64 (S : Int)) ∧ Below w.heap.size w w' := by
 have := ge.psize_yes g hl h w
 rw [e] at this; exact this
section
variable {M : Nat → Bool} {w : World} {c r d : Nat} {q : Nat → Nat} {pv tv : Value} {g : List Int} {N P S : Nat} {pl : Pln} {X : Raw}
theorem pageCells_no (h : Lay M w c r d q pv tv g N P S pl X) (p : List Int) (hp : p.length = 2) (hn : ¬ (0 ≤ gb p 0 ∧ gb p 0 < N ∧ 0 ≤ gb p 1 ∧ gb p 1 < P)) :
  Calls Try.prog 48 #[.pointer (some ⟨c, 0, none⟩), .agg (ints .i64 p)] w fun e w' => e = .returned (.tuple #[.slice none 0 0, .int .i64 2]) ∧ Below w.heap.size w w' := by
 have HL := hdH (h)
 obtain ⟨gl, hr, g0, g1, g2⟩ := h.1
 have SI : Hid (∀ w, Calls Try.prog 69 #[.agg (ints .i64 g), .agg (ints .i64 p)] w fun x w' => x = .returned (.tuple #[.int .i64 0, .int .i64 2]) ∧ Below w.heap.size w w') := index_none g p gl hp N P g0 g1 hn
 clear hn
 clear h
 have t0 := tR
 go_enter Try.func48, Try.ntmps48
 go_wp2_with (have q0 := t0; refine box_lawF _ rfl (.tmp 1) 43 rfl .i64 p rfl ?_; intro w1 X1 B1 l1; have HP := hdH (X1); have HL := hdH (HL.out.below B1); have BB := hdH (B1); clear X1 B1 t0)
 refine wp_region_held_drew (S := fun w' => Below w1.heap.size w1 w') (by kernel_rfl) (Below.refl _ _).drew (fun hS => ?_)
 obtain ⟨x1, hx0⟩ : ∃ x, x = w1.drew := ⟨_, rfl⟩
 rw [← hx0] at hS  ⊢
 clear hx0
 refine tkR 0 (some 9) (.pointer (some ⟨c, 0, none⟩)) rfl rfl hS ?_
 simp only [Act.put, zE1, zE2, zE3]
 refine tkG 1 (some 10) (.pointer (some ⟨c, 0, none⟩)) rfl rfl hS ?_
 simp only [Act.put, zE1, zE2, zE3]
 refine tkG 2 (some 11) (.pointer (some ⟨c, 0, none⟩)) rfl rfl hS ?_
 simp only [Act.put, zE1, zE2, zE3]
 refine tkH 3 (some 12) (.agg (ints .i64 g)) rfl rfl (Or.inl ⟨by rfl, fun w' hw' => by exact exec_loadN 23 (.tmp 11) rfl _ rfl _ _ (ld_geo gl (HL.out.below hw').geo)⟩) hS ?_
 simp only [Act.put, zE1, zE2, zE3]
 refine tkH 4 (some 13) (.agg (ints .i64 p)) rfl rfl (Or.inl ⟨by rfl, fun w' hw' => by exact exec_loadN 43 (.tmp 3) rfl _ rfl _ _ (ld_place hp (HP.out.below hw' l1).1)⟩) hS ?_
 simp only [Act.put, zE1, zE2, zE3]
 refine rd1 5 rfl fun K hK => ?_
 refine ge.step_callW _ (by rfl) (some 14) rfl 69 #[.tmp 12, .tmp 13] #[23, 43] rfl (fun q w' => by rfl) #[.agg (ints .i64 g), .agg (ints .i64 p)] (by simp only [zM1, zM2, zM3]; rfl) (fun v w' => v = (.tuple #[.int .i64 (0), .int .i64 2]) ∧ Below x1.heap.size x1 w') ?_ ?_
 ·exact (SI.out x1).mono fun e w' ⟨h1, h2⟩ => ⟨_, h1, rfl, h2⟩
 rintro _ x2 ⟨rfl, hb⟩
 have hS : Below w1.heap.size w1 x2 := hS.trans (hb.mono hS.size)
 clear hb
 refine hK.out _ _ hS (fun _ => ?_)
 simp only [Act.put, zE1, zE2, zE3]
 clear hK K
 refine tkR 6 (some 8) ((.tuple #[.int .i64 (0), .int .i64 2])) rfl rfl hS ?_
 simp only [Act.put, zE1, zE2, zE3]
 refine tkR 7 (some 15) (.int .i64 (0)) rfl rfl hS ?_
 simp only [Act.put, zE1, zE2, zE3]
 refine tkR 8 (some 16) (.int .i64 2) rfl rfl hS ?_
 simp only [Act.put, zE1, zE2, zE3]
 refine tkR 9 (some 6) (.int .i64 (0)) rfl rfl hS ?_
 simp only [Act.put, zE1, zE2, zE3]
 refine tkR 10 (some 7) (.int .i64 2) rfl rfl hS ?_
 simp only [Act.put, zE1, zE2, zE3]
 refine wpAnyH_done (by kernel_rfl) ?_ _
 have BB := bT BB hS
 have HL := hdH (HL.out.below hS)
 clear hS
 go_wp2
 go_ret2
 exact ⟨rfl, BB.out⟩
theorem pageCells_yes (h : Lay M w c r d q pv tv g N P S pl X) (p : List Int) (hp : p.length = 2) (b j n : Nat) (e0 : gb p 0 = b) (e1 : gb p 1 = j) (hb : b < N) (hj : j < P) (hn : n = b * P + j) :
  Calls Try.prog 48 #[.pointer (some ⟨c, 0, none⟩), .agg (ints .i64 p)] w fun e w' => e = .returned (.tuple #[.slice (some ⟨d, n * S, none⟩) S (N * (P * S) - n * S), .int .i64 0]) ∧ Below w.heap.size w w' := by
 have HL := hdH (h)
 obtain ⟨gl, hr, g0, g1, g2⟩ := h.1
 have SI : Hid (∀ w, Calls Try.prog 69 #[.agg (ints .i64 g), .agg (ints .i64 p)] w fun x w' => x = .returned (.tuple #[.int .i64 ((n : Nat) : Int), .int .i64 0]) ∧ Below w.heap.size w w') := by
  subst hn; exact index_nat g p gl hp hr N P b j g0 g1 e0 e1 hb hj
 have SP : Hid (∀ w, Calls Try.prog 37 #[.agg (ints .i64 g)] w fun x w' => x = .returned (.int .i64 (S : Int)) ∧ Below w.heap.size w w') := psize_nat g gl hr S g2
 have SQ : Hid (∀ w, Calls Try.prog 70 #[.slice (some ⟨d, 0, none⟩) (N * (P * S)) (N * (P * S)), .int .i64 (n : Int), .int .i64 (S : Int)] w fun e w' => e = .returned (.slice (some ⟨d, n * S, none⟩) S (N * (P * S) - n * S)) ∧ Below w.heap.size w w') := fun w => by
  obtain ⟨a1, a2, a3, a4, a5, a6⟩ := h.num
  obtain ⟨b1, b2, b3⟩ := h.bytes
  have f := idx_fits (S := S) hb hj
  rw [← hn] at f
  have f3 : n < N * P := f.2
  have f4 : N * P ≤ 64 * 32 := Nat.mul_le_mul a2 a4
  exact (part_any d (N * (P * S)) n S w (by omega) f.1 (by omega) (by omega) (by omega)).mono fun e w' ⟨h1, h2⟩ => ⟨h1, by rw [h2]; exact Below.refl _ _⟩
 clear hb hj e0 e1 hn
 clear h
 have t0 := tR
 go_enter Try.func48, Try.ntmps48
 go_wp2_with (have q0 := t0; refine box_lawF _ rfl (.tmp 1) 43 rfl .i64 p rfl ?_; intro w1 X1 B1 l1; have HP := hdH (X1); have HL := hdH (HL.out.below B1); have BB := hdH (B1); clear X1 B1 t0)
 refine wp_region_held_drew (S := fun w' => Below w1.heap.size w1 w') (by kernel_rfl) (Below.refl _ _).drew (fun hS => ?_)
 obtain ⟨x1, hx0⟩ : ∃ x, x = w1.drew := ⟨_, rfl⟩
 rw [← hx0] at hS  ⊢
 clear hx0
 refine tkR 0 (some 9) (.pointer (some ⟨c, 0, none⟩)) rfl rfl hS ?_
 simp only [Act.put, zE1, zE2, zE3]
 refine tkG 1 (some 10) (.pointer (some ⟨c, 0, none⟩)) rfl rfl hS ?_
 simp only [Act.put, zE1, zE2, zE3]
 refine tkG 2 (some 11) (.pointer (some ⟨c, 0, none⟩)) rfl rfl hS ?_
 simp only [Act.put, zE1, zE2, zE3]
 refine tkH 3 (some 12) (.agg (ints .i64 g)) rfl rfl (Or.inl ⟨by rfl, fun w' hw' => by exact exec_loadN 23 (.tmp 11) rfl _ rfl _ _ (ld_geo gl (HL.out.below hw').geo)⟩) hS ?_
 simp only [Act.put, zE1, zE2, zE3]
 refine tkH 4 (some 13) (.agg (ints .i64 p)) rfl rfl (Or.inl ⟨by rfl, fun w' hw' => by exact exec_loadN 43 (.tmp 3) rfl _ rfl _ _ (ld_place hp (HP.out.below hw' l1).1)⟩) hS ?_
 simp only [Act.put, zE1, zE2, zE3]
 refine rd1 5 rfl fun K hK => ?_
 refine ge.step_callW _ (by rfl) (some 14) rfl 69 #[.tmp 12, .tmp 13] #[23, 43] rfl (fun q w' => by rfl) #[.agg (ints .i64 g), .agg (ints .i64 p)] (by simp only [zM1, zM2, zM3]; rfl) (fun v w' => v = (.tuple #[.int .i64 (((n : Nat) : Int)), .int .i64 0]) ∧ Below x1.heap.size x1 w') ?_ ?_
 ·exact (SI.out x1).mono fun e w' ⟨h1, h2⟩ => ⟨_, h1, rfl, h2⟩
 rintro _ x2 ⟨rfl, hb⟩
 have hS : Below w1.heap.size w1 x2 := hS.trans (hb.mono hS.size)
 clear hb
 refine hK.out _ _ hS (fun _ => ?_)
 simp only [Act.put, zE1, zE2, zE3]
 clear hK K
 refine tkR 6 (some 8) ((.tuple #[.int .i64 (((n : Nat) : Int)), .int .i64 0])) rfl rfl hS ?_
 simp only [Act.put, zE1, zE2, zE3]
 refine tkR 7 (some 15) (.int .i64 (((n : Nat) : Int))) rfl rfl hS ?_
 simp only [Act.put, zE1, zE2, zE3]
 refine tkR 8 (some 16) (.int .i64 0) rfl rfl hS ?_
 simp only [Act.put, zE1, zE2, zE3]
 refine tkR 9 (some 6) (.int .i64 (((n : Nat) : Int))) rfl rfl hS ?_
 simp only [Act.put, zE1, zE2, zE3]
 refine tkR 10 (some 7) (.int .i64 0) rfl rfl hS ?_
 simp only [Act.put, zE1, zE2, zE3]
 refine wpAnyH_done (by kernel_rfl) ?_ _
 have BB := bT BB hS
 have HL := hdH (HL.out.below hS)
 clear hS
 go_wp2
 refine wp_region_held_drew (S := fun w' => Below x2.heap.size x2 w') (by kernel_rfl) (Below.refl _ _).drew (fun hS => ?_)
 obtain ⟨y1, hx0⟩ : ∃ x, x = x2.drew := ⟨_, rfl⟩
 rw [← hx0] at hS  ⊢
 clear hx0
 refine tkR 0 (some 20) (.pointer (some ⟨c, 0, none⟩)) rfl rfl hS ?_
 simp only [Act.put, zE1, zE2, zE3]
 refine tkG 1 (some 21) (.pointer (some ⟨c, 0, none⟩)) rfl rfl hS ?_
 simp only [Act.put, zE1, zE2, zE3]
 refine tkG 2 (some 22) (.pointer (some ⟨c, 8, none⟩)) rfl rfl hS ?_
 simp only [Act.put, zE1, zE2, zE3]
 refine tkH 3 (some 23) (.slice (some ⟨d, 0, none⟩) (N * (P * S)) (N * (P * S))) rfl rfl (Or.inl ⟨by rfl, fun w' hw' => by exact exec_loadN 53 (.tmp 22) rfl _ rfl _ _ (load_one one_bytes (HL.out.below hw').cells.2.2.1)⟩) hS ?_
 simp only [Act.put, zE1, zE2, zE3]
 refine tkR 4 (some 24) (.int .i64 (n : Int)) rfl rfl hS ?_
 simp only [Act.put, zE1, zE2, zE3]
 refine tkR 5 (some 25) (.pointer (some ⟨c, 0, none⟩)) rfl rfl hS ?_
 simp only [Act.put, zE1, zE2, zE3]
 refine tkG 6 (some 26) (.pointer (some ⟨c, 0, none⟩)) rfl rfl hS ?_
 simp only [Act.put, zE1, zE2, zE3]
 refine tkG 7 (some 27) (.pointer (some ⟨c, 0, none⟩)) rfl rfl hS ?_
 simp only [Act.put, zE1, zE2, zE3]
 refine tkH 8 (some 28) (.agg (ints .i64 g)) rfl rfl (Or.inl ⟨by rfl, fun w' hw' => by exact exec_loadN 23 (.tmp 27) rfl _ rfl _ _ (ld_geo gl (HL.out.below hw').geo)⟩) hS ?_
 simp only [Act.put, zE1, zE2, zE3]
 refine rd1 9 rfl fun K hK => ?_
 refine ge.step_callW _ (by rfl) (some 29) rfl 37 #[.tmp 28] #[23] rfl (fun q w' => by rfl) #[.agg (ints .i64 g)] (by simp only [zM1, zM2, zM3]; rfl) (fun v w' => v = (.int .i64 (S : Int)) ∧ Below y1.heap.size y1 w') ?_ ?_
 ·exact (SP.out y1).mono fun e w' ⟨h1, h2⟩ => ⟨_, h1, rfl, h2⟩
 rintro _ y2 ⟨rfl, hb⟩
 have hS : Below x2.heap.size x2 y2 := hS.trans (hb.mono hS.size)
 clear hb
 refine hK.out _ _ hS (fun _ => ?_)
 simp only [Act.put, zE1, zE2, zE3]
 clear hK K
 refine rd1 10 rfl fun K hK => ?_
 refine ge.step_callW _ (by rfl) (some 30) rfl 70 #[.tmp 23, .tmp 24, .tmp 29] #[53, 3, 3] rfl (fun q w' => by rfl) #[.slice (some ⟨d, 0, none⟩) (N * (P * S)) (N * (P * S)), .int .i64 (n : Int), .int .i64 (S : Int)] (by simp only [zM1, zM2, zM3]; rfl) (fun v w' => v = (.slice (some ⟨d, n * S, none⟩) S (N * (P * S) - n * S)) ∧ Below y2.heap.size y2 w') ?_ ?_
 ·exact (SQ.out y2).mono fun e w' ⟨h1, h2⟩ => ⟨_, h1, rfl, h2⟩
 rintro _ y3 ⟨rfl, hb⟩
 have hS : Below x2.heap.size x2 y3 := hS.trans (hb.mono hS.size)
 clear hb
 refine hK.out _ _ hS (fun _ => ?_)
 simp only [Act.put, zE1, zE2, zE3]
 clear hK K
 refine tkR 11 (some 4) ((.slice (some ⟨d, n * S, none⟩) S (N * (P * S) - n * S))) rfl rfl hS ?_
 simp only [Act.put, zE1, zE2, zE3]
 refine tkR 12 (some 5) (.int .i64 0) rfl rfl hS ?_
 simp only [Act.put, zE1, zE2, zE3]
 refine wpAnyH_done (by kernel_rfl) ?_ _
 have BB := bT BB hS
 clear hS
 go_wp2
 go_ret2
 exact ⟨rfl, BB.out⟩
end
theorem exec_mul {ev : Operand → Value} {o : Oper} {w : World} (x y : Operand) (hop : o.op = Op.binOp .mul 3 x y 3) (A B q : Int) (hx : ev x = .int .i64 A) (hy : ev y = .int .i64 B) (hq : IntKind.i64.wrap (A * B) = q) : (execOp ev o).run Try.prog w = .ok (.value (.int .i64 q)) w := by
 subst hq
 unfold execOp
 simp only [hop, hx, hy]
 rfl
theorem wrap_mul (P S : Nat) (h : P * S ≤ 16777216) : IntKind.i64.wrap ((P : Int) * (S : Int)) = ((P * S : Nat) : Int) := by
 have : (P : Int) * (S : Int) = ((P * S : Nat) : Int) := by simp
 rw [this, IntKind.wrap_i64]; omega
section
variable {M : Nat → Bool} {w : World} {c r d : Nat} {q : Nat → Nat} {pv tv : Value} {g : List Int} {N P S : Nat} {pl : Pln} {X : Raw}
theorem blockCells_off (h : Lay M w c r d q pv tv g N P S pl X) (ho : xo X = false) (b : Int) : Calls Try.prog 53 #[.pointer (some ⟨c, 0, none⟩), .int .i64 b] w fun e w' => e = .returned (.tuple #[.slice none 0 0, .int .i64 4]) ∧ w' = w := by
 have SO : Hid (Calls Try.prog 17 #[.pointer (some ⟨c, 0, none⟩)] w fun e w' => e = .returned (.bool false) ∧ w' = w) := on_any c false w (by rw [← ho]; exact h.cells.2.1)
 clear h
 go_enter Try.func53, Try.ntmps53
 go_wp2_with (go_at_call 17; refine SO.out.mono ?_; rintro e w' ⟨rfl, hw⟩; obtain rfl := hw.symm)
 go_ret2
 exact ⟨rfl, rfl⟩
theorem blockCells_no (h : Lay M w c r d q pv tv g N P S pl X) (ho : xo X = true) (b : Int) (hb : ¬ (0 ≤ b ∧ b < N)) : Calls Try.prog 53 #[.pointer (some ⟨c, 0, none⟩), .int .i64 b] w fun e w' => e = .returned (.tuple #[.slice none 0 0, .int .i64 2]) ∧ w' = w := by
 have SO : Hid (Calls Try.prog 17 #[.pointer (some ⟨c, 0, none⟩)] w fun e w' => e = .returned (.bool true) ∧ w' = w) := on_any c true w (by rw [← ho]; exact h.cells.2.1)
 have SH : Hid (Calls Try.prog 45 #[.pointer (some ⟨c, 0, none⟩), .int .i64 b] w fun e w' => e = .returned (.bool false) ∧ w' = w) := has_any c r N b w h.cells.2.2.2.1 false (by rw [decide_eq_false hb])
 clear h hb
 go_enter Try.func53, Try.ntmps53
 go_wp2_with (first
  | (go_at_call 45; refine SH.out.mono ?_; rintro e w' ⟨rfl, hw⟩; obtain rfl := hw.symm)
  | (go_at_call 17; refine SO.out.mono ?_; rintro e w' ⟨rfl, hw⟩; obtain rfl := hw.symm))
 go_ret2
 exact ⟨rfl, rfl⟩
theorem blockCells_yes (h : Lay M w c r d q pv tv g N P S pl X) (ho : xo X = true) (b : Nat) (hb : b < N) : Calls Try.prog 53 #[.pointer (some ⟨c, 0, none⟩), .int .i64 (b : Int)] w fun e w' => e = .returned (.tuple #[.slice (some ⟨d, b * (P * S), none⟩) (P * S) (N * (P * S) - b * (P * S)), .int .i64 0]) ∧ Below w.heap.size w w' := by
 have SO : Hid (Calls Try.prog 17 #[.pointer (some ⟨c, 0, none⟩)] w fun e w' => e = .returned (.bool true) ∧ w' = w) := on_any c true w (by rw [← ho]; exact h.cells.2.1)
 have SH : Hid (Calls Try.prog 45 #[.pointer (some ⟨c, 0, none⟩), .int .i64 (b : Int)] w fun e w' => e = .returned (.bool true) ∧ w' = w) := has_any c r N b w h.cells.2.2.2.1 true (by rw [decide_eq_true (by omega)])
 have HL := hdH (h)
 obtain ⟨gl, hr, g0, g1, g2⟩ := h.1
 have MQ : Hid (IntKind.i64.wrap ((P : Int) * (S : Int)) = ((P * S : Nat) : Int)) := wrap_mul P S (by have := h.bytes; omega)
 have C1 : Hid (∀ w', Below w.heap.size w w' → w'.cell? ⟨c, 1, none⟩ = some (.int .i64 (P : Int))) := fun w' hw => by
  have e : (g.map (Value.int .i64))[1]? = some (.int .i64 (P : Int)) := by
   rw [← g1, List.getElem?_map]
   have : g[1]? = some (gb g 1) := by simp [gb, List.getD, gl]
   rw [this]; rfl
  exact (h.below hw).geo 1 _ e
 have SP : Hid (∀ w, Calls Try.prog 37 #[.agg (ints .i64 g)] w fun x w' => x = .returned (.int .i64 (S : Int)) ∧ Below w.heap.size w w') := psize_nat g gl hr S g2
 have SQ : Hid (∀ w, Calls Try.prog 70 #[.slice (some ⟨d, 0, none⟩) (N * (P * S)) (N * (P * S)), .int .i64 (b : Int), .int .i64 ((P * S : Nat) : Int)] w fun e w' => e = .returned (.slice (some ⟨d, b * (P * S), none⟩) (P * S) (N * (P * S) - b * (P * S))) ∧ Below w.heap.size w w') := fun w => by
  obtain ⟨a1, a2, a3, a4, a5, a6⟩ := h.num
  obtain ⟨b1, b2, b3⟩ := h.bytes
  exact (part_any d (N * (P * S)) b (P * S) w (by omega) (Nat.mul_le_mul_right (P * S) (show b + 1 ≤ N by omega)) (by omega) (by omega) (by omega)).mono fun e w' ⟨h1, h2⟩ => ⟨h1, by rw [h2]; exact Below.refl _ _⟩
 clear h hb
 go_enter Try.func53, Try.ntmps53
 go_wp2_with (first
  | (go_at_call 45; refine SH.out.mono ?_; rintro e w' ⟨rfl, hw⟩; obtain rfl := hw.symm)
  | (go_at_call 17; refine SO.out.mono ?_; rintro e w' ⟨rfl, hw⟩; obtain rfl := hw.symm))
 refine wp_region_held_drew (S := fun w' => Below w.heap.size w w') (by kernel_rfl) (Below.refl _ _).drew (fun hS => ?_)
 obtain ⟨y1, hx0⟩ : ∃ x, x = w.drew := ⟨_, rfl⟩
 rw [← hx0] at hS  ⊢
 clear hx0
 refine tkR 0 (some 13) (.pointer (some ⟨c, 0, none⟩)) rfl rfl hS ?_
 simp only [Act.put, zE1, zE2, zE3]
 refine tkG 1 (some 14) (.pointer (some ⟨c, 0, none⟩)) rfl rfl hS ?_
 simp only [Act.put, zE1, zE2, zE3]
 refine tkG 2 (some 15) (.pointer (some ⟨c, 8, none⟩)) rfl rfl hS ?_
 simp only [Act.put, zE1, zE2, zE3]
 refine tkH 3 (some 16) (.slice (some ⟨d, 0, none⟩) (N * (P * S)) (N * (P * S))) rfl rfl (Or.inl ⟨by rfl, fun w' hw' => by exact exec_loadN 53 (.tmp 15) rfl _ rfl _ _ (load_one one_bytes (HL.out.below hw').cells.2.2.1)⟩) hS ?_
 simp only [Act.put, zE1, zE2, zE3]
 refine tkR 4 (some 17) (.int .i64 (b : Int)) rfl rfl hS ?_
 simp only [Act.put, zE1, zE2, zE3]
 refine tkR 5 (some 18) (.pointer (some ⟨c, 0, none⟩)) rfl rfl hS ?_
 simp only [Act.put, zE1, zE2, zE3]
 refine tkG 6 (some 19) (.pointer (some ⟨c, 0, none⟩)) rfl rfl hS ?_
 simp only [Act.put, zE1, zE2, zE3]
 refine tkG 7 (some 20) (.pointer (some ⟨c, 0, none⟩)) rfl rfl hS ?_
 simp only [Act.put, zE1, zE2, zE3]
 refine tkG 8 (some 21) (.pointer (some ⟨c, 1, none⟩)) rfl rfl hS ?_
 simp only [Act.put, zE1, zE2, zE3]
 refine tkH 9 (some 22) (.int .i64 (P : Int)) rfl rfl (Or.inl ⟨by rfl, fun w' hw' => by exact exec_loadN 3 (.tmp 21) rfl _ rfl _ _ (load_one one_int (C1.out w' hw'))⟩) hS ?_
 simp only [Act.put, zE1, zE2, zE3]
 refine tkR 10 (some 23) (.pointer (some ⟨c, 0, none⟩)) rfl rfl hS ?_
 simp only [Act.put, zE1, zE2, zE3]
 refine tkG 11 (some 24) (.pointer (some ⟨c, 0, none⟩)) rfl rfl hS ?_
 simp only [Act.put, zE1, zE2, zE3]
 refine tkG 12 (some 25) (.pointer (some ⟨c, 0, none⟩)) rfl rfl hS ?_
 simp only [Act.put, zE1, zE2, zE3]
 refine tkH 13 (some 26) (.agg (ints .i64 g)) rfl rfl (Or.inl ⟨by rfl, fun w' hw' => by exact exec_loadN 23 (.tmp 25) rfl _ rfl _ _ (ld_geo gl (HL.out.below hw').geo)⟩) hS ?_
 simp only [Act.put, zE1, zE2, zE3]
 refine rd1 14 rfl fun K hK => ?_
 refine ge.step_callW _ (by rfl) (some 27) rfl 37 #[.tmp 26] #[23] rfl (fun q w' => by rfl) #[.agg (ints .i64 g)] (by simp only [zM1, zM2, zM3]; rfl) (fun v w' => v = (.int .i64 (S : Int)) ∧ Below y1.heap.size y1 w') ?_ ?_
 ·exact (SP.out y1).mono fun e w' ⟨h1, h2⟩ => ⟨_, h1, rfl, h2⟩
 rintro _ y2 ⟨rfl, hb⟩
 have hS : Below w.heap.size w y2 := hS.trans (hb.mono hS.size)
 clear hb
 refine hK.out _ _ hS (fun _ => ?_)
 simp only [Act.put, zE1, zE2, zE3]
 clear hK K
 refine tkH 15 (some 28) (.int .i64 ((P * S : Nat) : Int)) rfl rfl (Or.inl ⟨by rfl, fun w' hw' => by exact exec_mul (.tmp 22) (.tmp 27) rfl (P : Int) (S : Int) _ rfl rfl MQ.out⟩) hS ?_
 simp only [Act.put, zE1, zE2, zE3]
 refine rd1 16 rfl fun K hK => ?_
 refine ge.step_callW _ (by rfl) (some 29) rfl 70 #[.tmp 16, .tmp 17, .tmp 28] #[53, 3, 3] rfl (fun q w' => by rfl) #[.slice (some ⟨d, 0, none⟩) (N * (P * S)) (N * (P * S)), .int .i64 (b : Int), .int .i64 ((P * S : Nat) : Int)] (by simp only [zM1, zM2, zM3]; rfl) (fun v w' => v = (.slice (some ⟨d, b * (P * S), none⟩) (P * S) (N * (P * S) - b * (P * S))) ∧ Below y2.heap.size y2 w') ?_ ?_
 ·exact (SQ.out y2).mono fun e w' ⟨h1, h2⟩ => ⟨_, h1, rfl, h2⟩
 rintro _ y3 ⟨rfl, hb⟩
 have hS : Below w.heap.size w y3 := hS.trans (hb.mono hS.size)
 clear hb
 refine hK.out _ _ hS (fun _ => ?_)
 simp only [Act.put, zE1, zE2, zE3]
 clear hK K
 refine tkR 17 (some 4) ((.slice (some ⟨d, b * (P * S), none⟩) (P * S) (N * (P * S) - b * (P * S)))) rfl rfl hS ?_
 simp only [Act.put, zE1, zE2, zE3]
 refine tkR 18 (some 5) (.int .i64 0) rfl rfl hS ?_
 simp only [Act.put, zE1, zE2, zE3]
 refine wpAnyH_done (by kernel_rfl) ?_ _
 have BB := hdH (hS)
 clear hS
 go_wp2
 go_ret2
 exact ⟨rfl, BB.out⟩
def Bhd (l : List Int) (p : Nat) : Prop := ∃ i, p ≤ i ∧ i < l.length ∧ 0 < gb l i
theorem gb_drop (l : List Int) (p i : Nat) : gb (l.drop p) i = gb l (p + i) := by simp [gb, List.getD]
theorem refuses_any (rb ro qb : Nat) (s : Bool) (l : List Int) (p P : Nat) (w : World) (c0 : w.cell? ⟨rb, ro, none⟩ = some (.slice (some ⟨qb, 0, none⟩) P P)) (c2 : w.cell? ⟨rb, ro + 2, none⟩ = some (.bool s)) (hA : Ar w qb 0 .i64 l) (hl : l.length = P) (hp : p < P) (hP : P ≤ 32) (x : Int)
  (h7 : s = true ∨ 2 ≤ gb l p → x = 7) (h6 : s = false → gb l p = 0 → Bhd l p → x = 6) (h0 : s = false → gb l p < 2 → ¬ (gb l p = 0 ∧ Bhd l p) → x = 0) :
  Calls Try.prog 50 #[.pointer (some ⟨rb, ro, none⟩), .int .i64 (p : Int)] w fun e w' => e = .returned (.int .i64 x) ∧ w' = w := by
 cases s with
 | true =>
  have hx := h7 (Or.inl rfl)
  subst hx
  clear h7 h6 h0
  go_enter Try.func50, Try.ntmps50
  go_wp2
  go_ret
  exact ⟨rfl, rfl⟩
 | false =>
  have cp := hA.cell0 p (by omega)
  have i0 : (0 : Int) ≤ (p : Int) := by omega
  have i1 : (p : Int) < (P : Int) := by omega
  have i2 : (p : Int) ≤ (P : Int) := by omega
  have hne : ¬ (P = p) := by omega
  have HA := hdH (hA)
  by_cases h2 : 2 ≤ gb l p
  ·have hx := h7 (Or.inr h2)
   subst hx
   clear h7 h6 h0 hA
   generalize gb l p = u at *
   go_enter Try.func50, Try.ntmps50
   go_wp2
   go_ret
   exact ⟨rfl, rfl⟩
  ·by_cases hu : gb l p = 0
   ·have SM : Hid (∀ w0, w0 = w → Calls Try.prog 71 #[.slice (some ⟨qb, p, none⟩) (P - p) (P - p)] w0 fun e w' => ∃ m, e = .returned (.int .i64 m) ∧ Mx (l.drop p) m ∧ w' = w0) := fun w0 e => by
     subst e
     have hd : Ar w0 qb p .i64 (l.drop p) := by
      have := hA.subG p (l.drop p) (by simp; omega) (fun t _ => gb_drop l p t)
      rwa [Nat.zero_add] at this
     exact max_any qb p (P - p) (P - p) (l.drop p) w0 hd (by simp; omega) (by omega) (Nat.le_refl _) (by omega)
    have H6 : Hid (Bhd l p → x = 6) := fun hb => h6 rfl hu hb
    have H0 : Hid (¬ Bhd l p → x = 0) := fun hb => h0 rfl (by omega) fun q => hb q.2
    rw [hu] at cp
    have HL := hdH (hl)
    clear h7 h6 h0 hA h2 hu hl
    go_enter Try.func50, Try.ntmps50
    go_wp2_with (go_at_call 71; refine (SM.out _ rfl).mono ?_; rintro e w' ⟨m, rfl, hm, hw⟩; obtain rfl := hw.symm; have HM := hdH (hm); clear hm)
    ·rename_i hpos
     have hx := H6.out (by
      obtain ⟨i, hi, e⟩ := HM.out.2
      rw [gb_drop] at e
      rw [List.length_drop] at hi
      exact ⟨p + i, by omega, by omega, by omega⟩)
     subst hx
     go_ret
     exact ⟨rfl, rfl⟩
    ·rename_i hpos
     have hx := H0.out (fun ⟨i, h1, h2, h3⟩ => by
      have := HM.out.1 (i - p) (by rw [List.length_drop]; omega)
      rw [gb_drop, show p + (i - p) = i by omega] at this
      omega)
     subst hx
     go_ret
     exact ⟨rfl, rfl⟩
   ·have hx := h0 rfl (by omega) (fun q => hu q.1)
    subst hx
    clear h7 h6 h0 hA
    generalize gb l p = u at *
    have hu' : (u == 0) = false := beq_eq_false_iff_ne.2 hu
    go_enter Try.func50, Try.ntmps50
    go_wp2
    go_ret
    exact ⟨rfl, rfl⟩
theorem power_any (h : Lay M w c r d q pv tv g N P S pl X) (b : Bool) :
  Calls Try.prog 28 #[.pointer (some ⟨c, 0, none⟩), .bool b] w fun e w' => (∃ v, e = .returned v) ∧ w' = w.setCell ⟨c, 7, none⟩ (.bool b) := by
 obtain ⟨q1, q2⟩ := h.free 7 (by omega)
 have f7 := h.cells.2.1
 clear h
 go_enter Try.func28, Try.ntmps28
 go_wp2
 exact ⟨rfl, _, results_none rfl _ _ _, ⟨_, rfl⟩, rfl⟩
end
end Go.Proofs.Ytikcohjhhoiakaa.na
