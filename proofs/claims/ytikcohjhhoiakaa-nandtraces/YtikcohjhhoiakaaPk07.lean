/- Texts put together. -/
import Derived.Test.YtikcohjhhoiakaaPk06
import Derived.Test.YtikcohjhhoiakaaPk01
import Derived.Test.YtikcohjhhoiakaaPk05
set_option maxHeartbeats 8000000
namespace Go.Proofs.Ytikcohjhhoiakaa.na
open Go.RowKit Go.Proofs.Ytikcohjhhoiakaa.fa
set_option maxRecDepth 20000
theorem on_any (c : Nat) (on : Bool) (w : World) (h : w.cell? ⟨c, 7, none⟩ = some (.bool on)) :
  Calls Try.prog 17 #[.pointer (some ⟨c, 0, none⟩)] w fun e w' => e = .returned (.bool on) ∧ w' = w := by
 go_enter Try.func17, Try.ntmps17
 go_wp2
 go_ret
 exact ⟨rfl, rfl⟩
theorem on_nil (w : World) : Calls Try.prog 17 #[.pointer none] w fun e w' => e = .returned (.bool false) ∧ w' = w := by
 go_enter Try.func17, Try.ntmps17
 go_wp2
 go_ret
 exact ⟨rfl, rfl⟩
theorem ops_any (c : Nat) (ao : Option Addr) (n cap : Nat) (w : World) (h : w.cell? ⟨c, 10, none⟩ = some (.slice ao n cap)) :
  Calls Try.prog 16 #[.pointer (some ⟨c, 0, none⟩)] w fun e w' => e = .returned (.int .i64 (n : Int)) ∧ w' = w := by
 go_enter Try.func16, Try.ntmps16
 go_wp2
 go_ret
 exact ⟨rfl, rfl⟩
theorem has_any (c r N : Nat) (b : Int) (w : World) (h : w.cell? ⟨c, 9, none⟩ = some (.slice (some ⟨r, 0, none⟩) N N)) (t : Bool) (ht : t = decide (0 ≤ b ∧ b < N)) :
  Calls Try.prog 45 #[.pointer (some ⟨c, 0, none⟩), .int .i64 b] w fun e w' => e = .returned (.bool t) ∧ w' = w := by
 by_cases h0 : 0 ≤ b
 ·have HT : Hid (decide (b < (N : Int)) = t) := by subst ht; show _ = _; simp [h0]
  clear ht
  go_enter Try.func45, Try.ntmps45
  go_wp2
  go_ret
  exact ⟨ret_bool HT.out, rfl⟩
 ·have h1 : ¬ (0 ≤ b) := h0
  have HT : Hid (false = t) := by subst ht; show _ = _; simp [h0]
  have h2 : b < 0 := by omega
  clear ht
  go_enter Try.func45, Try.ntmps45
  go_wp2
  go_ret
  exact ⟨ret_bool HT.out, rfl⟩
theorem part_any (d L n sz : Nat) (w : World) (hs : 0 < sz) (hL : (n + 1) * sz ≤ L) (hm : L ≤ 16777216) (hn : n ≤ 16777216) (hz : sz ≤ 16777216) :
  Calls Try.prog 70 #[.slice (some ⟨d, 0, none⟩) L L, .int .i64 (n : Int), .int .i64 (sz : Int)] w fun e w' => e = .returned (.slice (some ⟨d, n * sz, none⟩) sz (L - n * sz)) ∧ w' = w := by
 obtain ⟨k, hk⟩ : ∃ k, k = n * sz := ⟨_, rfl⟩
 rw [Nat.succ_mul] at hL
 rw [← hk] at hL ⊢
 have q1 : IntKind.i64.wrap ((n : Int) * (sz : Int)) = (k : Int) := by
  have : (n : Int) * (sz : Int) = (k : Int) := by rw [hk]; simp
  rw [this, IntKind.wrap_i64]; omega
 have q2 : IntKind.i64.wrap ((n : Int) + 1) = (n : Int) + 1 := by rw [IntKind.wrap_i64]; omega
 have q3 : IntKind.i64.wrap (((n : Int) + 1) * (sz : Int)) = ((k + sz : Nat) : Int) := by
  have : ((n : Int) + 1) * (sz : Int) = ((k + sz : Nat) : Int) := by rw [hk, Int.add_mul]; simp
  rw [this, IntKind.wrap_i64]; omega
 have HE : Hid (k + sz - k = sz) := by show _ = _; omega
 have hne : ¬ (L = k) := by omega
 have i0 : (0 : Int) ≤ (k : Int) := by omega
 have i1 : (k : Int) ≤ ((k + sz : Nat) : Int) := by omega
 have i2 : ((k + sz : Nat) : Int) ≤ (L : Int) := by omega
 clear hk
 obtain ⟨m, hm'⟩ : ∃ m, m = k + sz := ⟨_, rfl⟩
 rw [← hm'] at q3 i1 i2 HE
 clear hm'
 go_enter Try.func70, Try.ntmps70
 go_wp2
 go_ret
 refine ⟨?_, rfl⟩
 rw [HE.out]
 rfl
def Mx (xs : List Int) (m : Int) : Prop := (∀ i, i < xs.length → gb xs i ≤ m) ∧ ∃ i, i < xs.length ∧ gb xs i = m
theorem max_any (b o n cap : Nat) (xs : List Int) (w : World) (h : Ar w b o .i64 xs) (hl : xs.length = n) (h0 : 0 < n) (hn : n ≤ cap) (hc : cap ≤ 9223372036854775807) :
  Calls Try.prog 71 #[.slice (some ⟨b, o, none⟩) n cap] w fun e w' => ∃ m, e = .returned (.int .i64 m) ∧ Mx xs m ∧ w' = w := by
 have H := hdH (h)
 have c0 : w.cell? ⟨b, o, none⟩ = some (.int .i64 (gb xs 0)) := by have := h.cell 0 (by omega); rwa [Nat.add_zero] at this
 have i0 : ¬ ((n : Int) < 1) := by omega
 have i1 : (0 : Int) < (n : Int) := by omega
 clear h
 go_enter Try.func71, Try.ntmps71
 go_wp2
 go_loopw [3, 4] (fun m i wr => ∃ (k : Nat) (x : Int), 1 ≤ k ∧ k ≤ n ∧ m = .int .i64 x ∧ i = .int .i64 k ∧ Hid ((∀ i, i < k → gb xs i ≤ x) ∧ ∃ i, i < n ∧ gb xs i = x) ∧ wr = w) (fun _ i _ => n - (intOf i).toNat)
 case atStart => exact ⟨1, gb xs 0, by omega, by omega, rfl, rfl, ⟨fun i hi => by rw [show i = 0 by omega]; exact Int.le_refl _, 0, h0, rfl⟩, rfl⟩
 case round =>
  obtain ⟨k, x, hk1, hk, rfl, rfl, HX, hw⟩ := hrel
  subst hw
  have k0 : (0 : Int) ≤ (k : Int) := by omega
  by_cases hlt : k < n
  ·have k1 : (k : Int) < (n : Int) := by omega
   have ck := H.out.cell k (by omega)
   obtain ⟨y, hy⟩ : ∃ y, gb xs k = y := ⟨_, rfl⟩
   rw [hy] at ck
   have HY := hdH (hy)
   clear hy c0
   go_wp2
   go_roundw
   case rel =>
    refine ⟨k + 1, _, by omega, by omega, rfl, by go_num, ⟨fun i hi => ?_, ?_⟩, trivial⟩
    ·have hm : x ≤ (if x < y then y else x) ∧ y ≤ (if x < y then y else x) := by split <;> omega
     rcases Nat.lt_or_ge i k with q | q
     ·exact Int.le_trans (HX.out.1 i q) hm.1
     ·rw [show i = k by omega, HY.out]; exact hm.2
    ·by_cases hxy : x < y
     ·rw [if_pos hxy]; exact ⟨k, hlt, HY.out⟩
     ·rw [if_neg hxy]; exact HX.out.2
   case measure => simp [intOf]; omega
  ·have e : k = n := by omega
   subst e
   go_wp2
   go_ret
   exact ⟨_, rfl, ⟨fun i hi => HX.out.1 i (by omega), by rw [hl]; exact HX.out.2⟩, rfl⟩
section
variable {M : Nat → Bool} {w : World} {c r d : Nat} {q : Nat → Nat} {pv tv : Value} {g : List Int} {N P S : Nat} {pl : Pln} {X : Raw}
theorem Lay.st (h : Lay M w c r d q pv tv g N P S pl X) {b : Nat} (hb : b < N) : w.cell? ⟨r, b * 3, none⟩ = some (.slice (some ⟨q b, 0, none⟩) P P) ∧ w.cell? ⟨r, b * 3 + 1, none⟩ = some (.int .i64 (xe X b)) ∧ w.cell? ⟨r, b * 3 + 2, none⟩ = some (.bool (xs X b)) := by
 obtain ⟨-, -, -, -, -, h6, -⟩ := h
 have := (h6 b hb).1
 exact ⟨this 0 _ rfl, this 1 _ rfl, this 2 _ rfl⟩
theorem Lay.num (h : Lay M w c r d q pv tv g N P S pl X) : 7 ≤ N ∧ N ≤ 64 ∧ 4 ≤ P ∧ P ≤ 32 ∧ 120 ≤ S ∧ S ≤ 4184 := by
 obtain ⟨⟨-, hr, e1, e2, e3⟩, -⟩ := h
 obtain ⟨k1, k2, k3, -⟩ := hr.1
 omega
theorem Lay.bytes (h : Lay M w c r d q pv tv g N P S pl X) : P * S ≤ 133888 ∧ N * (P * S) ≤ 8568832 ∧ 0 < P * S := by
 obtain ⟨a1, a2, a3, a4, a5, a6⟩ := h.num
 have b1 : P * S ≤ 32 * 4184 := Nat.mul_le_mul a4 a6
 have b2 : N * (P * S) ≤ 64 * (32 * 4184) := Nat.mul_le_mul a2 b1
 have b3 : 4 * 120 ≤ P * S := Nat.mul_le_mul a3 a5
 omega
end
end Go.Proofs.Ytikcohjhhoiakaa.na
namespace Go.Proofs.Ytikcohjhhoiakaa.ge
open Go.RowKit
set_option maxRecDepth 20000
def spl (g : List Int) : List Int := [gb g 0, 7, 64, gb g 1, 4, 32, gb g 2, 32, 4096, gb g 3, 0, 8, gb g 4, 1, 1000, gb g 5, 1, 1000]
def kp (g : List Int) (i : Nat) : Bool := decide (gb (spl g) (i * 3 + 1) ≤ gb (spl g) (i * 3)) && decide (gb (spl g) (i * 3) ≤ gb (spl g) (i * 3 + 2))
theorem kept_iff (g : List Int) : Kept g ↔ ∀ i, i < 6 → kp g i = true := by
 constructor
 ·rintro ⟨h0, h1, h2, h3, h4, h5⟩ i hi
  have : i = 0 ∨ i = 1 ∨ i = 2 ∨ i = 3 ∨ i = 4 ∨ i = 5 := by omega
  rcases this with rfl | rfl | rfl | rfl | rfl | rfl
  ·exact Bool.and_eq_true_iff.2 ⟨decide_eq_true h0.1, decide_eq_true h0.2⟩
  ·exact Bool.and_eq_true_iff.2 ⟨decide_eq_true h1.1, decide_eq_true h1.2⟩
  ·exact Bool.and_eq_true_iff.2 ⟨decide_eq_true h2.1, decide_eq_true h2.2⟩
  ·exact Bool.and_eq_true_iff.2 ⟨decide_eq_true h3.1, decide_eq_true h3.2⟩
  ·exact Bool.and_eq_true_iff.2 ⟨decide_eq_true h4.1, decide_eq_true h4.2⟩
  ·exact Bool.and_eq_true_iff.2 ⟨decide_eq_true h5.1, decide_eq_true h5.2⟩
 ·intro h
  have f : ∀ i, i < 6 → gb (spl g) (i * 3 + 1) ≤ gb (spl g) (i * 3) ∧ gb (spl g) (i * 3) ≤ gb (spl g) (i * 3 + 2) := fun i hi => by
   have := Bool.and_eq_true_iff.1 (h i hi)
   exact ⟨of_decide_eq_true this.1, of_decide_eq_true this.2⟩
  exact ⟨f 0 (by omega), f 1 (by omega), f 2 (by omega), f 3 (by omega), f 4 (by omega), f 5 (by omega)⟩
theorem kept1_any (i b : Nat) (L : List Int) (w : World) (hA : Ar w b 0 .i64 L) (hl : L.length = 18) (hi : i < 6) (t : Bool) (ht : t = (decide (gb L (i * 3 + 1) ≤ gb L (i * 3)) && decide (gb L (i * 3) ≤ gb L (i * 3 + 2)))) :
  Calls Try.prog 82 #[.int .i64 i, .pointer (some ⟨b, 0, none⟩)] w fun e w' => e = .returned (.bool t) ∧ ∃ n, w' = w.drewN n := by
 have c0 := hA.cell0 (i * 3) (by omega)
 have c1 := hA.cell0 (i * 3 + 1) (by omega)
 have c2 := hA.cell0 (i * 3 + 2) (by omega)
 have i0 : (0 : Int) ≤ (i : Int) := by omega
 have i1 : (i : Int) < 6 := by omega
 have q1 : IntKind.i64.wrap (i : Int) = i := by rw [IntKind.wrap_i64]; omega
 clear hA hl hi
 generalize gb L (i * 3) = x0 at *
 generalize gb L (i * 3 + 1) = x1 at *
 generalize gb L (i * 3 + 2) = x2 at *
 by_cases h : x1 ≤ x0
 ·have hd : decide (x1 ≤ x0) = true := decide_eq_true h
  rw [hd, Bool.true_and] at ht
  subst ht
  clear h
  go_enter Try.func82, Try.ntmps82
  go_wp2
  go_quiet (fail)
  go_wp2
  go_ret
  exact ⟨rfl, _, rfl⟩
 ·have hd : decide (x1 ≤ x0) = false := decide_eq_false h
  rw [hd, Bool.false_and] at ht
  subst ht
  clear h
  go_enter Try.func82, Try.ntmps82
  go_wp2
  go_quiet (fail)
  go_wp2
  go_ret
  exact ⟨rfl, _, rfl⟩
theorem zero_spans : (Try.prog.info? 124).map (fun i => (i.zero, i.size)) = some (some (.agg (ints .i64 (List.replicate 18 0))), (List.replicate 18 (0 : Int)).length) := by kernel_rfl
theorem size_spans : (Try.prog.info? 124).map (·.size) = some 18 := by kernel_rfl
theorem kp_more {g : List Int} {k : Nat} (h : ∀ j, j < k → kp g j = true) (h' : kp g k = true) : ∀ j, j < k + 1 → kp g j = true := fun j hj => by
 by_cases e : j < k
 ·exact h j e
 ·have : j = k := by omega
  subst this; exact h'
theorem kept_any (g : List Int) (w : World) (hl : g.length = 6) (t : Bool) (ht : t = true ↔ Kept g) :
  Calls Try.prog 56 #[.agg (ints .i64 g)] w fun x w' => x = .returned (.bool t) ∧ Below w.heap.size w w' := by
 have HT : Hid (t = true ↔ ∀ i, i < 6 → kp g i = true) := ht.trans (kept_iff g)
 have S : Hid (∀ (i b : Nat) (w : World), Ar w b 0 .i64 (spl g) → i < 6 → Calls Try.prog 82 #[.int .i64 i, .pointer (some ⟨b, 0, none⟩)] w fun e w' => e = .returned (.bool (kp g i)) ∧ ∃ n, w' = w.drewN n) := fun i b w hA hi => kept1_any i b (spl g) w hA rfl hi _ rfl
 have hmf : ∀ (fn : Fn) (first cap : Array Value) (w : World), (Instr.makeFunc fn first cap).run Try.prog w = .ok (.func fn first cap) w := fun _ _ _ _ => rfl
 clear ht
 go_enter Try.func56, Try.ntmps56
 go_wp2_with (first
  | (refine store_lawF _ rfl (.tmp 3) (.tmp 24) 124 rfl .i64 (List.replicate 18 0) (spl g) _ rfl rfl X2 18 size_spans rfl rfl ?_; intro w3 X3 B3)
  | (refine new_lawF _ rfl 124 rfl .i64 (List.replicate 18 0) zero_spans ?_; intro w2 X2 B2 L2)
  | (refine box_lawF _ rfl (.tmp 0) 23 rfl .i64 g rfl ?_; intro w1 X1 B1 L1; obtain ⟨f0, f1, f2, f3, f4, f5⟩ := geo_cells X1 hl))
 have HB : Hid (Below w.heap.size w w3) := B1.trans ((B2.trans B3).mono (by omega))
 generalize hq : w1.heap.size = c at *
 have hcw : w.heap.size ≤ c := by omega
 clear X1 X2 B1 B2 B3 L1 L2 f0 f1 f2 f3 f4 f5 hq
 go_loopw [26] (fun i wr => ∃ k : Nat, k ≤ 6 ∧ i = .int .i64 k ∧ Hid (∀ j, j < k → kp g j = true) ∧ Hid (Ar wr c 0 .i64 (spl g)) ∧ Hid (Below w.heap.size w wr)) (fun i _ => 6 - (intOf i).toNat)
 case atStart => exact ⟨0, Nat.zero_le _, rfl, (fun j hj => by omega), X3, HB⟩
 case round =>
  obtain ⟨k, hk, rfl, HK, HX, HW⟩ := hrel
  obtain ⟨wa, rfl⟩ : ∃ wx, wx = wr := ⟨_, rfl⟩
  have k0 : (0 : Int) ≤ (k : Int) := by omega
  have q1 : IntKind.i64.wrap (k : Int) = k := by rw [IntKind.wrap_i64]; omega
  by_cases hlt : k < 6
  ·have k1 : (k : Int) < 6 := by omega
   by_cases hp : kp g k = true
   ·have S1 : Hid (Calls Try.prog 82 #[.int .i64 k, .pointer (some ⟨c, 0, none⟩)] wa fun e w' => e = .returned (.bool true) ∧ ∃ n, w' = wa.drewN n) := by
     have := S.out k c wa HX.out hlt
     rwa [hp] at this
    have HP := hdH (hp)
    clear hp
    go_wp2_with (go_at_call 82; refine S1.out.mono ?_; rintro e wx ⟨rfl, n, hw⟩; obtain rfl := hw.symm)
    go_roundw
    case rel => exact ⟨k + 1, by omega, by go_num, kp_more HK.out HP.out, HX.out.drewN n, below_drewN HW.out n⟩
    case measure => simp [intOf]; omega
   ·have S1 : Hid (Calls Try.prog 82 #[.int .i64 k, .pointer (some ⟨c, 0, none⟩)] wa fun e w' => e = .returned (.bool false) ∧ ∃ n, w' = wa.drewN n) := by
     have := S.out k c wa HX.out hlt
     rwa [Bool.eq_false_iff.2 hp] at this
    have ht : t = false := Bool.eq_false_iff.2 fun h => hp (HT.out.1 h k hlt)
    subst ht
    clear hp
    go_wp2_with (go_at_call 82; refine S1.out.mono ?_; rintro e wx ⟨rfl, n, hw⟩; obtain rfl := hw.symm)
    go_ret
    exact ⟨rfl, below_drewN HW.out n⟩
  ·have hk6 : k = 6 := by omega
   subst hk6
   have ht : t = true := HT.out.2 HK.out
   subst ht
   go_wp2
   go_ret
   exact ⟨rfl, HW.out⟩
section
variable {ops : Array Oper} {C : World → Prop} {K : Act → Prop} {o : Oper} {a : Act}
theorem q_skip (hw : Region.wanted o (yielded ops a.tmps) = false) (d : Option Tmp) (hd : o.dst = d) (hK : K (a.put d undef)) :
  if Region.wanted o (yielded ops a.tmps) = true then o.quiet Try.prog a C K else K (a.put o.dst undef) := by
 rw [if_neg (by rw [hw]; simp)]
 subst hd
 exact hK
theorem q_loadS (hw : Region.wanted o (yielded ops a.tmps) = true) (d : Option Tmp) (hd : o.dst = d) (x : Operand) (t : TypeId) (hop : o.op = Op.load t x) (p v : Value) (hx : a.eval x = p) (h : ∀ w, C w → (Instr.loadAt t p).run Try.prog w = .ok v w) (hK : K (a.put d v)) :
  if Region.wanted o (yielded ops a.tmps) = true then o.quiet Try.prog a C K else K (a.put o.dst undef) := by
 refine q_val hw d hd _ (fun w hC => ?_) hK
 unfold execOp
 simp only [hop, hx, Sem.run_bind, Result.andThen_ok, h w hC]
 rfl
end
theorem Hid.mk' {p : Prop} (h : p) : Hid p := h
theorem geo_class {w1 : World} {c : Nat} {g : List Int} (h : Ar w1 c 0 .i64 g) (hl : g.length = 6) : ∀ w', Below w1.heap.size w1 w' →
  w'.cell? ⟨c, 0, none⟩ = some (.int .i64 (gb g 0)) ∧ w'.cell? ⟨c, 1, none⟩ = some (.int .i64 (gb g 1)) ∧ w'.cell? ⟨c, 2, none⟩ = some (.int .i64 (gb g 2)) ∧ w'.cell? ⟨c, 3, none⟩ = some (.int .i64 (gb g 3)) ∧
  w'.cell? ⟨c, 4, none⟩ = some (.int .i64 (gb g 4)) ∧ w'.cell? ⟨c, 5, none⟩ = some (.int .i64 (gb g 5)) ∧ (Instr.loadAt 23 (.pointer (some ⟨c, 0, none⟩))).run Try.prog w' = .ok (.agg (ints .i64 g)) w' :=
 fun _ hb => by
  have a := h.below hb (h.lt (by omega))
  obtain ⟨f0, f1, f2, f3, f4, f5⟩ := geo_cells a hl
  exact ⟨f0, f1, f2, f3, f4, f5, load_geo a hl⟩
theorem call_class {f : FuncId} {vs : Array Value} {v : Value} (h : ∀ w, Calls Try.prog f vs w fun e w' => e = .returned v ∧ Below w.heap.size w w') (w1 : World) : ∀ w', Below w1.heap.size w1 w' → Calls Try.prog f vs w' fun e w'' => e = .returned v ∧ Below w1.heap.size w1 w'' :=
 fun w' hb => (h w').mono fun _ _ h' => ⟨h'.1, hb.trans (h'.2.mono hb.size)⟩
theorem check_k (g : List Int) (w : World) (hl : g.length = 6) (hk : ¬ Kept g) :
  Calls Try.prog 33 #[.agg (ints .i64 g)] w fun x w' => x = .returned (.int .i64 2) ∧ Below w.heap.size w w' := by
 have S := hdH (fun w => kept_any g w hl false (iff_of_false Bool.false_ne_true hk))
 have t0 := tR
 clear hk
 go_enter Try.func33, Try.ntmps33
 go_wp2_with (first
  | (go_at_call 56; refine (S.out _).mono ?_; rintro e w2 ⟨rfl, B2⟩; have HX := hdH (HX.out.below B2 (by omega)); obtain ⟨e0, e1, e2, e3, e4, e5⟩ := geo_cells HX.out hl)
  | (have q1 := HX; refine load_lawS _ (by rfl) _ _ rfl (load_geo HX.out hl) ?_)
  | (have q0 := t0; refine box_lawF _ rfl (.tmp 0) 23 rfl .i64 g rfl ?_; intro w1 X1 B1 L1; have HX := hdH (X1); obtain ⟨f0, f1, f2, f3, f4, f5⟩ := geo_cells X1 hl; clear X1 t0))
 go_ret
 exact ⟨rfl, B1.trans (B2.mono (by omega))⟩
theorem check_m (g : List Int) (w : World) (hl : g.length = 6) (hk : Kept g) (h16 : gb g 2 % 16 ≠ 0) :
  Calls Try.prog 33 #[.agg (ints .i64 g)] w fun x w' => x = .returned (.int .i64 2) ∧ Below w.heap.size w w' := by
 have S := hdH (fun w => kept_any g w hl true (iff_of_true rfl hk))
 obtain ⟨m, hm⟩ : ∃ m, m = gb g 2 % 16 := ⟨_, rfl⟩
 have q1 : (gb g 2).tmod 16 = m := by rw [hm]; exact Int.tmod_eq_emod_of_nonneg (by obtain ⟨-, -, h, -⟩ := hk; omega)
 have m0 : m ≠ 0 := by omega
 have m1 : IntKind.i64.wrap m = m := by rw [IntKind.wrap_i64]; omega
 have t0 := tR
 clear hk h16 hm
 go_enter Try.func33, Try.ntmps33
 go_wp2_with (first
  | (go_at_call 56; refine (S.out _).mono ?_; rintro e w2 ⟨rfl, B2⟩; have HX := hdH (HX.out.below B2 (by omega)); obtain ⟨e0, e1, e2, e3, e4, e5⟩ := geo_cells HX.out hl)
  | (have q1 := HX; refine load_lawS _ (by rfl) _ _ rfl (load_geo HX.out hl) ?_)
  | (have q0 := t0; refine box_lawF _ rfl (.tmp 0) 23 rfl .i64 g rfl ?_; intro w1 X1 B1 L1; have HX := hdH (X1); obtain ⟨f0, f1, f2, f3, f4, f5⟩ := geo_cells X1 hl; clear X1 t0))
 go_ret
 exact ⟨rfl, B1.trans (B2.mono (by omega))⟩
theorem check_r (g : List Int) (w : World) (hl : g.length = 6) (hk : Kept g) (h16 : gb g 2 % 16 = 0) (hr : gb g 1 < rec g) :
  Calls Try.prog 33 #[.agg (ints .i64 g)] w fun x w' => x = .returned (.int .i64 2) ∧ Below w.heap.size w w' := by
 have S := hdH (fun w => kept_any g w hl true (iff_of_true rfl hk))
 obtain ⟨m, hm⟩ : ∃ m, m = gb g 2 % 16 := ⟨_, rfl⟩
 have q1 : (gb g 2).tmod 16 = m := by rw [hm]; exact Int.tmod_eq_emod_of_nonneg (by obtain ⟨-, -, h, -⟩ := hk; omega)
 have m0 : m = 0 := by omega
 subst m0
 have SR' := hdH (fun w => rec_any g w hl hk)
 have SD' := hdH (fun w => db_any g w hl hk)
 have q2 : IntKind.i64.wrap (gb g 3 + 3) = gb g 3 + 3 := by obtain ⟨-, -, -, h, -⟩ := hk; rw [IntKind.wrap_i64]; omega
 have t0 := tR
 clear hk h16 hm
 generalize rec g = z at *
 generalize gb g 0 - 4 = y at *
 go_enter Try.func33, Try.ntmps33
 go_wp2_with (first
  | (go_at_call 56; refine (S.out _).mono ?_; rintro e w2 ⟨rfl, B2⟩; have HX := hdH (HX.out.below B2 (by omega)); obtain ⟨e0, e1, e2, e3, e4, e5⟩ := geo_cells HX.out hl)
  | (have q1 := HX; refine load_lawS _ (by rfl) _ _ rfl (load_geo HX.out hl) ?_)
  | (have q0 := t0; refine box_lawF _ rfl (.tmp 0) 23 rfl .i64 g rfl ?_; intro w1 X1 B1 L1; have HX := hdH (X1); obtain ⟨f0, f1, f2, f3, f4, f5⟩ := geo_cells X1 hl; clear X1 t0))
 have SR : Hid (∀ w', Below w2.heap.size w2 w' → Calls Try.prog 57 #[.agg (ints .i64 g)] w' fun x w'' => x = .returned (.int .i64 z) ∧ Below w2.heap.size w2 w'') := call_class SR'.out w2
 have SD : Hid (∀ w', Below w2.heap.size w2 w' → Calls Try.prog 58 #[.agg (ints .i64 g)] w' fun x w'' => x = .returned (.int .i64 y) ∧ Below w2.heap.size w2 w'') := call_class SD'.out w2
 have GC := Hid.mk' (geo_class HX.out hl)
 refine region_quietC (C := fun w' => Below w2.heap.size w2 w') (by kernel_rfl) (by kernel_rfl) (Below.refl _ _).drew ?_
 refine wpQuiet_step (fun K hK => ?_)
 refine q_loadS (by rfl) (some 12) rfl (.tmp 1) 23 rfl (.pointer (some ⟨w.heap.size, 0, none⟩)) (.agg (ints .i64 g)) rfl (fun w' h => (GC.out w' h).2.2.2.2.2.2) (hK _ ?_)
 simp only [Act.put, zE1, zE2, zE3]
 clear hK K
 refine wpQuiet_step (fun K hK => ?_)
 refine q_call (by rfl) (some 13) rfl 57 #[.tmp 12] #[23] rfl (fun q w' => by rfl) #[.agg (ints .i64 g)] (by simp only [zM1, zM2, zM3]; rfl) (.int .i64 z) SR.out (hK _ ?_)
 simp only [Act.put, zE1, zE2, zE3]
 clear hK K
 refine wpQuiet_step (fun K hK => ?_)
 refine q_val (by rfl) (some 14) rfl (.pointer (some ⟨w.heap.size, 1, none⟩)) (fun w' _ => by go_simp) (hK _ ?_)
 simp only [Act.put, zE1, zE2, zE3]
 clear hK K
 refine wpQuiet_step (fun K hK => ?_)
 refine q_get (by rfl) (some 15) rfl (.tmp 14) 3 rfl .i64 (gb g 1) w.heap.size (1) rfl Try.underlying3 (fun w' h => (GC.out w' h).2.1) (hK _ ?_)
 simp only [Act.put, zE1, zE2, zE3]
 clear hK K
 refine wpQuiet_step (fun K hK => ?_)
 refine q_val (by rfl) (some 16) rfl (.bool true) (fun w' _ => by go_simp) (hK _ ?_)
 simp only [Act.put, zE1, zE2, zE3]
 clear hK K
 refine wpQuiet_step (fun K hK => ?_)
 refine q_val (by rfl) (some 17) rfl (.bool true) (fun w' _ => by rfl) (hK _ ?_)
 simp only [Act.put, zE1, zE2, zE3]
 clear hK K
 refine wpQuiet_step (fun K hK => ?_)
 refine q_skip (by rfl) (some 18) rfl (hK _ ?_)
 simp only [Act.put, zE1, zE2, zE3]
 clear hK K
 refine wpQuiet_step (fun K hK => ?_)
 refine q_skip (by rfl) (some 19) rfl (hK _ ?_)
 simp only [Act.put, zE1, zE2, zE3]
 clear hK K
 refine wpQuiet_step (fun K hK => ?_)
 refine q_skip (by rfl) (some 20) rfl (hK _ ?_)
 simp only [Act.put, zE1, zE2, zE3]
 clear hK K
 refine wpQuiet_step (fun K hK => ?_)
 refine q_skip (by rfl) (some 21) rfl (hK _ ?_)
 simp only [Act.put, zE1, zE2, zE3]
 clear hK K
 refine wpQuiet_step (fun K hK => ?_)
 refine q_skip (by rfl) (some 22) rfl (hK _ ?_)
 simp only [Act.put, zE1, zE2, zE3]
 clear hK K
 refine wpQuiet_step (fun K hK => ?_)
 refine q_skip (by rfl) (some 23) rfl (hK _ ?_)
 simp only [Act.put, zE1, zE2, zE3]
 clear hK K
 refine wpQuiet_step (fun K hK => ?_)
 refine q_val (by rfl) (some 24) rfl (.bool true) (fun w' _ => by rfl) (hK _ ?_)
 simp only [Act.put, zE1, zE2, zE3]
 clear hK K
 refine wpQuiet_nil ?_
 intro w3 B3
 go_wp2
 go_ret
 exact ⟨rfl, B1.trans ((B2.mono (by omega)).trans (B3.mono (by have := B2.size; omega)))⟩
theorem check_s (g : List Int) (w : World) (hl : g.length = 6) (hk : Kept g) (h16 : gb g 2 % 16 = 0) (hr : rec g ≤ gb g 1) (hs : gb g 0 - 4 < gb g 3 + 3) :
  Calls Try.prog 33 #[.agg (ints .i64 g)] w fun x w' => x = .returned (.int .i64 2) ∧ Below w.heap.size w w' := by
 have S := hdH (fun w => kept_any g w hl true (iff_of_true rfl hk))
 obtain ⟨m, hm⟩ : ∃ m, m = gb g 2 % 16 := ⟨_, rfl⟩
 have q1 : (gb g 2).tmod 16 = m := by rw [hm]; exact Int.tmod_eq_emod_of_nonneg (by obtain ⟨-, -, h, -⟩ := hk; omega)
 have m0 : m = 0 := by omega
 subst m0
 have SR' := hdH (fun w => rec_any g w hl hk)
 have SD' := hdH (fun w => db_any g w hl hk)
 have q2 : IntKind.i64.wrap (gb g 3 + 3) = gb g 3 + 3 := by obtain ⟨-, -, -, h, -⟩ := hk; rw [IntKind.wrap_i64]; omega
 have t0 := tR
 clear hk h16 hm
 generalize rec g = z at *
 generalize gb g 0 - 4 = y at *
 go_enter Try.func33, Try.ntmps33
 go_wp2_with (first
  | (go_at_call 56; refine (S.out _).mono ?_; rintro e w2 ⟨rfl, B2⟩; have HX := hdH (HX.out.below B2 (by omega)); obtain ⟨e0, e1, e2, e3, e4, e5⟩ := geo_cells HX.out hl)
  | (have q1 := HX; refine load_lawS _ (by rfl) _ _ rfl (load_geo HX.out hl) ?_)
  | (have q0 := t0; refine box_lawF _ rfl (.tmp 0) 23 rfl .i64 g rfl ?_; intro w1 X1 B1 L1; have HX := hdH (X1); obtain ⟨f0, f1, f2, f3, f4, f5⟩ := geo_cells X1 hl; clear X1 t0))
 have SR : Hid (∀ w', Below w2.heap.size w2 w' → Calls Try.prog 57 #[.agg (ints .i64 g)] w' fun x w'' => x = .returned (.int .i64 z) ∧ Below w2.heap.size w2 w'') := call_class SR'.out w2
 have SD : Hid (∀ w', Below w2.heap.size w2 w' → Calls Try.prog 58 #[.agg (ints .i64 g)] w' fun x w'' => x = .returned (.int .i64 y) ∧ Below w2.heap.size w2 w'') := call_class SD'.out w2
 have GC := Hid.mk' (geo_class HX.out hl)
 refine region_quietC (C := fun w' => Below w2.heap.size w2 w') (by kernel_rfl) (by kernel_rfl) (Below.refl _ _).drew ?_
 refine wpQuiet_step (fun K hK => ?_)
 refine q_loadS (by rfl) (some 12) rfl (.tmp 1) 23 rfl (.pointer (some ⟨w.heap.size, 0, none⟩)) (.agg (ints .i64 g)) rfl (fun w' h => (GC.out w' h).2.2.2.2.2.2) (hK _ ?_)
 simp only [Act.put, zE1, zE2, zE3]
 clear hK K
 refine wpQuiet_step (fun K hK => ?_)
 refine q_call (by rfl) (some 13) rfl 57 #[.tmp 12] #[23] rfl (fun q w' => by rfl) #[.agg (ints .i64 g)] (by simp only [zM1, zM2, zM3]; rfl) (.int .i64 z) SR.out (hK _ ?_)
 simp only [Act.put, zE1, zE2, zE3]
 clear hK K
 refine wpQuiet_step (fun K hK => ?_)
 refine q_val (by rfl) (some 14) rfl (.pointer (some ⟨w.heap.size, 1, none⟩)) (fun w' _ => by go_simp) (hK _ ?_)
 simp only [Act.put, zE1, zE2, zE3]
 clear hK K
 refine wpQuiet_step (fun K hK => ?_)
 refine q_get (by rfl) (some 15) rfl (.tmp 14) 3 rfl .i64 (gb g 1) w.heap.size (1) rfl Try.underlying3 (fun w' h => (GC.out w' h).2.1) (hK _ ?_)
 simp only [Act.put, zE1, zE2, zE3]
 clear hK K
 refine wpQuiet_step (fun K hK => ?_)
 refine q_val (by rfl) (some 16) rfl (.bool false) (fun w' _ => by go_simp) (hK _ ?_)
 simp only [Act.put, zE1, zE2, zE3]
 clear hK K
 refine wpQuiet_step (fun K hK => ?_)
 refine q_val (by rfl) (some 17) rfl (.bool false) (fun w' _ => by rfl) (hK _ ?_)
 simp only [Act.put, zE1, zE2, zE3]
 clear hK K
 refine wpQuiet_step (fun K hK => ?_)
 refine q_loadS (by rfl) (some 18) rfl (.tmp 1) 23 rfl (.pointer (some ⟨w.heap.size, 0, none⟩)) (.agg (ints .i64 g)) rfl (fun w' h => (GC.out w' h).2.2.2.2.2.2) (hK _ ?_)
 simp only [Act.put, zE1, zE2, zE3]
 clear hK K
 refine wpQuiet_step (fun K hK => ?_)
 refine q_call (by rfl) (some 19) rfl 58 #[.tmp 18] #[23] rfl (fun q w' => by rfl) #[.agg (ints .i64 g)] (by simp only [zM1, zM2, zM3]; rfl) (.int .i64 y) SD.out (hK _ ?_)
 simp only [Act.put, zE1, zE2, zE3]
 clear hK K
 refine wpQuiet_step (fun K hK => ?_)
 refine q_val (by rfl) (some 20) rfl (.pointer (some ⟨w.heap.size, 3, none⟩)) (fun w' _ => by go_simp) (hK _ ?_)
 simp only [Act.put, zE1, zE2, zE3]
 clear hK K
 refine wpQuiet_step (fun K hK => ?_)
 refine q_get (by rfl) (some 21) rfl (.tmp 20) 3 rfl .i64 (gb g 3) w.heap.size (3) rfl Try.underlying3 (fun w' h => (GC.out w' h).2.2.2.1) (hK _ ?_)
 simp only [Act.put, zE1, zE2, zE3]
 clear hK K
 refine wpQuiet_step (fun K hK => ?_)
 refine q_val (by rfl) (some 22) rfl (.int .i64 (gb g 3 + 3)) (fun w' _ => by go_simp) (hK _ ?_)
 simp only [Act.put, zE1, zE2, zE3]
 clear hK K
 refine wpQuiet_step (fun K hK => ?_)
 refine q_val (by rfl) (some 23) rfl (.bool true) (fun w' _ => by go_simp) (hK _ ?_)
 simp only [Act.put, zE1, zE2, zE3]
 clear hK K
 refine wpQuiet_step (fun K hK => ?_)
 refine q_val (by rfl) (some 24) rfl (.bool true) (fun w' _ => by rfl) (hK _ ?_)
 simp only [Act.put, zE1, zE2, zE3]
 clear hK K
 refine wpQuiet_nil ?_
 intro w3 B3
 go_wp2
 go_ret
 exact ⟨rfl, B1.trans ((B2.mono (by omega)).trans (B3.mono (by have := B2.size; omega)))⟩
theorem check_o (g : List Int) (w : World) (hl : g.length = 6) (hk : Kept g) (h16 : gb g 2 % 16 = 0) (hr : rec g ≤ gb g 1) (hs : gb g 3 + 3 ≤ gb g 0 - 4) :
  Calls Try.prog 33 #[.agg (ints .i64 g)] w fun x w' => x = .returned (.int .i64 0) ∧ Below w.heap.size w w' := by
 have S := hdH (fun w => kept_any g w hl true (iff_of_true rfl hk))
 obtain ⟨m, hm⟩ : ∃ m, m = gb g 2 % 16 := ⟨_, rfl⟩
 have q1 : (gb g 2).tmod 16 = m := by rw [hm]; exact Int.tmod_eq_emod_of_nonneg (by obtain ⟨-, -, h, -⟩ := hk; omega)
 have m0 : m = 0 := by omega
 subst m0
 have SR' := hdH (fun w => rec_any g w hl hk)
 have SD' := hdH (fun w => db_any g w hl hk)
 have q2 : IntKind.i64.wrap (gb g 3 + 3) = gb g 3 + 3 := by obtain ⟨-, -, -, h, -⟩ := hk; rw [IntKind.wrap_i64]; omega
 have t0 := tR
 clear hk h16 hm
 generalize rec g = z at *
 generalize gb g 0 - 4 = y at *
 go_enter Try.func33, Try.ntmps33
 go_wp2_with (first
  | (go_at_call 56; refine (S.out _).mono ?_; rintro e w2 ⟨rfl, B2⟩; have HX := hdH (HX.out.below B2 (by omega)); obtain ⟨e0, e1, e2, e3, e4, e5⟩ := geo_cells HX.out hl)
  | (have q1 := HX; refine load_lawS _ (by rfl) _ _ rfl (load_geo HX.out hl) ?_)
  | (have q0 := t0; refine box_lawF _ rfl (.tmp 0) 23 rfl .i64 g rfl ?_; intro w1 X1 B1 L1; have HX := hdH (X1); obtain ⟨f0, f1, f2, f3, f4, f5⟩ := geo_cells X1 hl; clear X1 t0))
 have SR : Hid (∀ w', Below w2.heap.size w2 w' → Calls Try.prog 57 #[.agg (ints .i64 g)] w' fun x w'' => x = .returned (.int .i64 z) ∧ Below w2.heap.size w2 w'') := call_class SR'.out w2
 have SD : Hid (∀ w', Below w2.heap.size w2 w' → Calls Try.prog 58 #[.agg (ints .i64 g)] w' fun x w'' => x = .returned (.int .i64 y) ∧ Below w2.heap.size w2 w'') := call_class SD'.out w2
 have GC := Hid.mk' (geo_class HX.out hl)
 refine region_quietC (C := fun w' => Below w2.heap.size w2 w') (by kernel_rfl) (by kernel_rfl) (Below.refl _ _).drew ?_
 refine wpQuiet_step (fun K hK => ?_)
 refine q_loadS (by rfl) (some 12) rfl (.tmp 1) 23 rfl (.pointer (some ⟨w.heap.size, 0, none⟩)) (.agg (ints .i64 g)) rfl (fun w' h => (GC.out w' h).2.2.2.2.2.2) (hK _ ?_)
 simp only [Act.put, zE1, zE2, zE3]
 clear hK K
 refine wpQuiet_step (fun K hK => ?_)
 refine q_call (by rfl) (some 13) rfl 57 #[.tmp 12] #[23] rfl (fun q w' => by rfl) #[.agg (ints .i64 g)] (by simp only [zM1, zM2, zM3]; rfl) (.int .i64 z) SR.out (hK _ ?_)
 simp only [Act.put, zE1, zE2, zE3]
 clear hK K
 refine wpQuiet_step (fun K hK => ?_)
 refine q_val (by rfl) (some 14) rfl (.pointer (some ⟨w.heap.size, 1, none⟩)) (fun w' _ => by go_simp) (hK _ ?_)
 simp only [Act.put, zE1, zE2, zE3]
 clear hK K
 refine wpQuiet_step (fun K hK => ?_)
 refine q_get (by rfl) (some 15) rfl (.tmp 14) 3 rfl .i64 (gb g 1) w.heap.size (1) rfl Try.underlying3 (fun w' h => (GC.out w' h).2.1) (hK _ ?_)
 simp only [Act.put, zE1, zE2, zE3]
 clear hK K
 refine wpQuiet_step (fun K hK => ?_)
 refine q_val (by rfl) (some 16) rfl (.bool false) (fun w' _ => by go_simp) (hK _ ?_)
 simp only [Act.put, zE1, zE2, zE3]
 clear hK K
 refine wpQuiet_step (fun K hK => ?_)
 refine q_val (by rfl) (some 17) rfl (.bool false) (fun w' _ => by rfl) (hK _ ?_)
 simp only [Act.put, zE1, zE2, zE3]
 clear hK K
 refine wpQuiet_step (fun K hK => ?_)
 refine q_loadS (by rfl) (some 18) rfl (.tmp 1) 23 rfl (.pointer (some ⟨w.heap.size, 0, none⟩)) (.agg (ints .i64 g)) rfl (fun w' h => (GC.out w' h).2.2.2.2.2.2) (hK _ ?_)
 simp only [Act.put, zE1, zE2, zE3]
 clear hK K
 refine wpQuiet_step (fun K hK => ?_)
 refine q_call (by rfl) (some 19) rfl 58 #[.tmp 18] #[23] rfl (fun q w' => by rfl) #[.agg (ints .i64 g)] (by simp only [zM1, zM2, zM3]; rfl) (.int .i64 y) SD.out (hK _ ?_)
 simp only [Act.put, zE1, zE2, zE3]
 clear hK K
 refine wpQuiet_step (fun K hK => ?_)
 refine q_val (by rfl) (some 20) rfl (.pointer (some ⟨w.heap.size, 3, none⟩)) (fun w' _ => by go_simp) (hK _ ?_)
 simp only [Act.put, zE1, zE2, zE3]
 clear hK K
 refine wpQuiet_step (fun K hK => ?_)
 refine q_get (by rfl) (some 21) rfl (.tmp 20) 3 rfl .i64 (gb g 3) w.heap.size (3) rfl Try.underlying3 (fun w' h => (GC.out w' h).2.2.2.1) (hK _ ?_)
 simp only [Act.put, zE1, zE2, zE3]
 clear hK K
 refine wpQuiet_step (fun K hK => ?_)
 refine q_val (by rfl) (some 22) rfl (.int .i64 (gb g 3 + 3)) (fun w' _ => by go_simp) (hK _ ?_)
 simp only [Act.put, zE1, zE2, zE3]
 clear hK K
 refine wpQuiet_step (fun K hK => ?_)
 refine q_val (by rfl) (some 23) rfl (.bool false) (fun w' _ => by go_simp) (hK _ ?_)
 simp only [Act.put, zE1, zE2, zE3]
 clear hK K
 refine wpQuiet_step (fun K hK => ?_)
 refine q_val (by rfl) (some 24) rfl (.bool false) (fun w' _ => by rfl) (hK _ ?_)
 simp only [Act.put, zE1, zE2, zE3]
 clear hK K
 refine wpQuiet_nil ?_
 intro w3 B3
 go_wp2
 go_ret
 exact ⟨rfl, B1.trans ((B2.mono (by omega)).trans (B3.mono (by have := B2.size; omega)))⟩
theorem check_yes (g : List Int) (hl : g.length = 6) (h : Rt g) (w : World) :
  Calls Try.prog 33 #[.agg (ints .i64 g)] w fun x w' => x = .returned (.int .i64 0) ∧ Below w.heap.size w w' := check_o g w hl h.1 h.2.1 h.2.2.1 h.2.2.2
theorem check_no (g : List Int) (hl : g.length = 6) (h : ¬ Rt g) (w : World) :
  Calls Try.prog 33 #[.agg (ints .i64 g)] w fun x w' => x = .returned (.int .i64 2) ∧ Below w.heap.size w w' := by
 by_cases hk : Kept g
 ·by_cases h1 : gb g 2 % 16 = 0
  ·by_cases h2 : rec g ≤ gb g 1
   ·exact check_s g w hl hk h1 h2 (Int.not_le.1 fun h3 => h ⟨hk, h1, h2, h3⟩)
   ·exact check_r g w hl hk h1 (Int.not_le.1 h2)
  ·exact check_m g w hl hk h1
 ·exact check_k g w hl hk
theorem psize_yes (g : List Int) (hl : g.length = 6) (h : Rt g) (w : World) :
  Calls Try.prog 37 #[.agg (ints .i64 g)] w fun x w' => x = .returned (.int .i64 (gb g 2 + 88)) ∧ Below w.heap.size w w' := by
 have S : Hid (∀ w, Calls Try.prog 33 #[.agg (ints .i64 g)] w fun x w' => x = .returned (.int .i64 0) ∧ Below w.heap.size w w') := check_yes g hl h
 have q1 : IntKind.i64.wrap (gb g 2 + 88) = gb g 2 + 88 := by obtain ⟨⟨-, -, h, -⟩, -⟩ := h; rw [IntKind.wrap_i64]; omega
 clear h
 have t0 := tR
 go_enter Try.func37, Try.ntmps37
 go_wp2_with (first
  | (have q1 := t1; go_at_call 33; refine (S.out _).mono ?_; rintro e w2 ⟨rfl, B2⟩; have HX := hdH (HX.out.below B2 (HX.out.lt (by omega))); obtain ⟨e0, e1, e2, e3, e4, e5⟩ := geo_cells HX.out hl; have BB := bT BB B2; have t2 := tR; clear B2 t1)
  | (have q1 := HX; refine load_lawS _ (by rfl) _ _ rfl (load_geo HX.out hl) ?_)
  | (have q0 := t0; refine box_lawF _ rfl (.tmp 0) 23 rfl .i64 g rfl ?_; intro w1 X1 B1 L1; have HX := hdH (X1); obtain ⟨f0, f1, f2, f3, f4, f5⟩ := geo_cells X1 hl; have BB := hdH (B1); have t1 := tR; clear X1 t0 B1))
 go_ret
 exact ⟨rfl, BB.out⟩
theorem div_count (u s n : Nat) (hu : 0 < u) (h1 : s ≤ n * u) (h2 : ∀ m, m < n → m * u < s) : ((s : Int) + (u : Int) - 1) / (u : Int) = (n : Int) := by
 have := qt_count u s n hu h1 h2
 unfold qt at this
 have e : ((s : Int) + (u : Int) - 1) = ((s + u - 1 : Nat) : Int) := by omega
 rw [e, ← Int.natCast_ediv]
 omega
theorem more_count {u s k : Nat} (h : ∀ m, m < k → m * u < s) (h' : k * u < s) : ∀ m, m < k + 1 → m * u < s := fun m hm => by
 by_cases e : m < k
 ·exact h m e
 ·have : m = k := by omega
  subst this; exact h'
theorem rchunks_any (g : List Int) (hl : g.length = 6) (hk : Kept g) (w : World) :
  Calls Try.prog 39 #[.agg (ints .i64 g)] w fun x w' => x = .returned (.int .i64 (rec g)) ∧ Below w.heap.size w w' := by
 obtain ⟨u, hu⟩ : ∃ u : Nat, gb g 2 = (u : Int) := ⟨(gb g 2).toNat, by obtain ⟨-, -, h, -⟩ := hk; omega⟩
 have hu1 : 32 ≤ u ∧ u ≤ 4096 := by obtain ⟨-, -, h, -⟩ := hk; omega
 have HR : Hid (∀ n : Nat, 624 ≤ n * u → (∀ m, m < n → m * u < 624) → rec g = (n : Int)) := fun n h1 h2 => by
  unfold rec; rw [hu]; exact div_count u 624 n (by omega) h1 h2
 clear hk
 generalize rec g = z at *
 go_enter Try.func39, Try.ntmps39
 go_wp2_with (refine box_lawF _ rfl (.tmp 0) 23 rfl .i64 g rfl ?_; intro w1 X1 B1 L1; obtain ⟨f0, f1, f2, f3, f4, f5⟩ := geo_cells X1 hl)
 have c2 : w1.cell? ⟨w.heap.size, 2, none⟩ = some (.int .i64 (u : Int)) := by rw [f2, hu]
 clear f0 f1 f2 f3 f4 f5 X1 hu
 go_loopw [3] (fun i wr => ∃ k : Nat, k ≤ 20 ∧ i = .int .i64 k ∧ Hid (∀ m, m < k → m * u < 624) ∧ wr = w1) (fun i _ => 20 - (intOf i).toNat)
 case atStart => exact ⟨0, Nat.zero_le _, rfl, (fun j hj => by omega), rfl⟩
 case round =>
  obtain ⟨k, hk, rfl, HK, rfl⟩ := hrel
  have k0 : (0 : Int) ≤ (k : Int) := by omega
  have q1 : IntKind.i64.wrap (k : Int) = k := by rw [IntKind.wrap_i64]; omega
  obtain ⟨m, hm⟩ : ∃ m : Nat, m = k * u := ⟨_, rfl⟩
  have hm1 : m ≤ 81920 := by rw [hm]; exact Nat.le_trans (Nat.mul_le_mul hk hu1.2) (by omega)
  have qm : (k : Int) * (u : Int) = (m : Int) := by rw [hm]; simp
  have HM := hdH (hm)
  have h20 : Hid (640 ≤ 20 * u) := by show _ ≤ _; omega
  clear hm
  by_cases hlt : m < 624
  ·have k1 : (m : Int) < 624 := by omega
   have hk20 : k < 20 := by
    rcases Nat.lt_or_ge k 20 with h | h
    ·exact h
    ·have : k = 20 := by omega
     subst this
     have := HM.out; have := h20.out; omega
   have HN : Hid (∀ m, m < k + 1 → m * u < 624) := more_count HK.out (by rw [← HM.out]; exact hlt)
   go_wp2
   go_roundw
   case rel => exact ⟨k + 1, by omega, by go_num, HN, by simp⟩
   case measure => simp [intOf]; omega
  ·have k1 : ¬ (m : Int) < 624 := by omega
   have hz := HR.out k (by rw [← HM.out]; omega) HK.out
   subst hz
   go_wp2
   go_ret
   exact ⟨rfl, B1⟩
end Go.Proofs.Ytikcohjhhoiakaa.ge
