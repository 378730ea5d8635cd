/- Texts put together. -/
import Derived.Test.YtikcohjhhoiakaaPk23
import Derived.Test.YtikcohjhhoiakaaPk13
set_option maxHeartbeats 8000000
namespace Go.Proofs.Ytikcohjhhoiakaa.na
open Go.RowKit Go.Proofs.Ytikcohjhhoiakaa.fa
set_option maxRecDepth 20000
def RpkD (N P : Nat) (g2 g3 g4 g5 : Int) (po : Option Addr) (pn pc n b p : Nat) (gv uv : Nat → Value) (l : Nat → Int) (s : Nat → Bool) (e : Nat → Int) (xv : Nat → Value) (new : List Int) (w : World) (x : Ending) (w' : World) : Prop := ∃ r rc gw nv, x = .returned (.tuple #[.agg (chr [(N : Int), P, g2, g3, g4, g5] (.slice (some ⟨r, 0, none⟩) N rc) (.slice po pn pc) true (n : Int)).toArray, .int .i64 0]) ∧ OwR w.heap.size w' (.slice (some ⟨r, 0, none⟩) N rc) 50 5 (bks N (at1 gv b gw) (at1 uv b (uv b)) (at1 l b (l b)) (at1 s b (s b)) (at1 e b (e b))) ∧ OwR w.heap.size w' gw 53 1 (pgc P (at1 xv p nv)) ∧ Own w.heap.size w' nv new ∧ Below w.heap.size w w'
theorem one_u8 : (Try.prog.info? 5).map (·.size) = some 1 := by kernel_rfl
theorem own_set {B : Nat} {w : World} {g n cap : Nat} {xs : List Int} (h : Own B w (.slice (some ⟨g, 0, none⟩) n cap) xs) (hn : xs.length = n) (k : Nat) (x : Int) : Own B (w.setCell ⟨g, k, none⟩ (.int .u8 x)) (.slice (some ⟨g, 0, none⟩) n cap) (xs.set k x) := by
 subst hn
 have := (World.ownsRow.stored h k (.int .u8 x)).1
 rw [← List.map_set] at this
 show World.ownsRow _ _ _ _ _ _ _
 rw [List.length_set]
 exact this
theorem push_lawB {ops : Array Oper} {rest : List Oper} {a : Act} {Q : Exit → Act → World → Prop} {d : Option Tmp} {s x : Operand} {ty : TypeId} {pos : String} {af : Array Edge} (w : World)
  (B : Nat) (hB : B ≤ w.heap.size) (v vy : Value) (xs ys : List Int) (hs : a.eval s = v) (hx : a.eval x = vy) (hown : Own B w v xs) (hy : Byt w vy ys) (hm : xs.length + ys.length ≤ 140737488355328)
  (hK : ∀ v' w', Own B w' v' (xs ++ ys) → w.grownBy w' v.ownBlock → wpList Try.prog ops Q rest (a.put d v') w') :
  wpList Try.prog ops Q (⟨d, .call { callee := .builtin .append, args := #[s, x], argTypes := #[53, 53] }, ty, pos, af, none⟩ :: rest) a w := by
 obtain ⟨i0, hi, hz0, hz1, hz2⟩ := info_parts info_u8
 obtain ⟨ao, cap, rfl, h1, h2, h3, h4, h5⟩ := hy
 cases ao with
 | none =>
  have hc := h4 rfl
  subst hc
  have : ys = [] := List.eq_nil_of_length_eq_zero (by omega)
  subst this
  refine wpList_append_own_none rfl s x 53 rfl B 5 i0 1 Try.underlying53 hi v xs.length _ hs hown hx (hK v w ?_ (World.grownBy.refl _ _))
  rwa [List.append_nil]
 | some ad =>
  refine wpList_append_own _ rfl s x 53 rfl B 5 i0 (.int .u8 0) 1 1 Try.underlying53 hi hz0 hz1 hz2 rfl (by decide) v xs.length _ hs hown ad ys.length cap (ys.map (Value.int .u8)) hx (by simp) ?_ ?_ (by simp only [maxLen]; omega) (by omega) hB fun v' w' h1 h2 _ => ?_
  ·intro j u hj
   have hjl : j < ys.length := by have := (List.getElem?_eq_some_iff.1 hj).1; simpa using this
   obtain ⟨b, off, e, hc⟩ := h5 (by omega)
   cases e
   rw [Addr.add_mid, hc j hjl, ← hj]
   simp [gb, List.getD, hjl]
  ·intro u hu
   simp only [List.mem_map] at hu
   obtain ⟨y, _, rfl⟩ := hu
   rfl
  ·refine hK v' w' ?_ h2
   show w'.ownsRow B 5 1 v' (xs ++ ys).length ((xs ++ ys).map (Value.int .u8))
   simpa using h1
theorem rpk_do (N P : Nat) (g2 g3 g4 g5 : Int) (bq : Option Addr) (bc : Nat) (po : Option Addr) (pn pc : Nat) (S : Nat) (hs : Shp [(N : Int), P, g2, g3, g4, g5] N P S) (n b p a : Nat) (x : Int) (hb : b < N) (hp : p < P) (ha : a < S) (gv uv : Nat → Value) (l : Nat → Int) (s : Nat → Bool) (e : Nat → Int) (pb : Nat → List Int) (us : Nat → Int) (xv : Nat → Value) (w : World)
  (hR : Rws w (.slice bq N bc) 5 (bks N gv uv l s e)) (h1 : ∀ b, b < N → (gv b).oneCell' = true ∧ (uv b).oneCell' = true) (hX : Rws w (gv b) 1 (pgc P xv)) (hXb : ∀ j, j < P → Byt w (xv j) (pb j) ∧ (pb j).length = S) (hU : Rws w (uv b) 1 (usc P us)) :
  Calls Try.prog 44 #[.agg (chr [(N : Int), P, g2, g3, g4, g5] (.slice bq N bc) (.slice po pn pc) true (n : Int)).toArray, .agg (ints .i64 [(b : Int), (p : Int)]), .int .i64 (a : Int), .int .u8 x] w (RpkD N P g2 g3 g4 g5 po pn pc n b p gv uv l s e xv ((pb p).set a x) w) := by
 have HQS : IntKind.i64.wrap (g2 + 88) = (S : Int) := by
  obtain ⟨gl, hr, z0, z1, z2⟩ := hs
  obtain ⟨k1, k2, k3, -⟩ := hr.1
  have e1 : gb [(N : Int), P, g2, g3, g4, g5] 2 = g2 := rfl
  rw [IntKind.wrap_i64]; omega
 have b0 : (0 : Int) ≤ (b : Int) := by omega
 have b1 : (b : Int) < (N : Int) := by omega
 have p0 : (0 : Int) ≤ (p : Int) := by omega
 have p1 : (p : Int) < (P : Int) := by omega
 have SR : Hid (∀ w, Calls Try.prog 23 #[.agg (ints .i64 [(N : Int), P, g2, g3, g4, g5]), .agg (ints .i64 [(b : Int), (p : Int)])] w fun e w' => e = .returned (.bool true) ∧ Below w.heap.size w w') := fun w => by
  have z := place_any [(N : Int), P, g2, g3, g4, g5] N P S hs b p w
  rw [show decide (0 ≤ (b : Int) ∧ (b : Int) < (N : Int) ∧ 0 ≤ (p : Int) ∧ (p : Int) < (P : Int)) = true from decide_eq_true ⟨b0, b1, p0, p1⟩] at z
  exact z
 have HNM : Hid (N ≤ 64 ∧ P ≤ 32 ∧ S ≤ 4184) := by
  obtain ⟨gl, hr, z0, z1, z2⟩ := hs
  obtain ⟨k1, k2, k3, -⟩ := hr.1
  show _ ∧ _ ∧ _
  omega
 have hx1 := hX
 have hy1 := hU
 have HR : Hid (∀ w', Below w.heap.size w w' → Rws w' (.slice bq N bc) 5 (bks N gv uv l s e)) := fun w' h => hR.below (by omega) h
 obtain ⟨xq, xc, hx⟩ := rws_form hx1 (pgc_len P xv)
 obtain ⟨yq, yc, hy'⟩ := rws_form hy1 (usc_len P us)
 rw [hx] at hx1
 rw [hy'] at hy1
 obtain ⟨xb, xo, hxq, hcx⟩ := hx1.at (t := p) (by rw [pgc_len]; exact hp)
 obtain ⟨yb, yo, hyq, hcy⟩ := hy1.at (t := p) (by rw [usc_len]; exact hp)
 subst hxq
 subst hyq
 rw [pgc_el P xv p hp] at hcx
 rw [usc_el P us p hp] at hcy
 have CX : Hid (∀ w', Below w.heap.size w w' → w'.cell? ⟨xb, xo + p, none⟩ = some (xv p)) := fun w' h => by
  have z := hcx 0 _ rfl
  rw [Nat.mul_one, Nat.add_zero] at z
  rw [h.cell (World.block_lt_of_cell? w _ z)]; exact z
 have CY : Hid (∀ w', Below w.heap.size w w' → w'.cell? ⟨yb, yo + p, none⟩ = some (.int .i64 (us p))) := fun w' h => by
  have z := hcy 0 _ rfl
  rw [Nat.mul_one, Nat.add_zero] at z
  rw [h.cell (World.block_lt_of_cell? w _ z)]; exact z
 have hc9 := hR.at (t := b) (by rw [bks_len]; exact hb)
 obtain ⟨bb, off, hbq, hc⟩ := hc9
 subst hbq
 rw [bks_el N gv uv l s e b hb, hx, hy'] at hc
 have HC0 : Hid (∀ w', Below w.heap.size w w' → w'.rangeAt bb (off + b * 5) (bkc (.slice (some ⟨xb, xo, none⟩) P xc) (.slice (some ⟨yb, yo, none⟩) P yc) (l b) (s b) (e b))) := fun w' h => range_heap hc (h.block bb (range_lt hc (by simp [bkc])))
 have HXr : Hid (∀ w', Below w.heap.size w w' → Rws w' (.slice (some ⟨xb, xo, none⟩) P xc) 1 (pgc P xv)) := fun w' h => hx1.below (by omega) h
 have H1p : Hid (∀ u ∈ (pgc P xv).flatten, u.oneCell' = true) := pgc_one fun j hj => byt_one_cell (hXb j hj).1
 have H1b : Hid (∀ u ∈ (bks N gv uv l s e).flatten, u.oneCell' = true) := bks_one h1
 have LP : Hid ((pgc P xv).length = P) := pgc_len P xv
 have LN : Hid ((bks N gv uv l s e).length = N) := bks_len N _ _ _ _ _
 have LB : Hid ((pb p).length = S) := (hXb p hp).2
 have HXb : Hid (∀ w', Below w.heap.size w w' → Byt w' (xv p) (pb p)) := fun w' h => (hXb p hp).1.below h
 have ha9 : a < S := ha
 have hP32 : P ≤ 32 := HNM.out.2.1
 have hN64 : N ≤ 64 := HNM.out.1
 have hS41 : S ≤ 4184 := HNM.out.2.2
 have a0 : ¬ (a : Int) < 0 := by omega
 have a1 : ¬ (S : Int) ≤ (a : Int) := by omega
 have a2 : ¬ (a : Int) ≥ (S : Int) := by omega
 have a3 : (0 : Int) ≤ (a : Int) := by omega
 have a4 : (a : Int) < (S : Int) := by omega
 clear hs hR hX hXb hU hc hx1 hy1 hcx hcy h1 CX CY HNM ha
 have t0 := tR
 go_enter Try.func44, Try.ntmps44
 go_wp2_with (first
  | (have q14 := t14; (with_reducible refine at_store ?_); refine store_lawC _ (chr [(N : Int), P, g2, g3, g4, g5] (.slice (some ⟨r, 0, none⟩) N rc) (.slice po pn pc) true (n : Int)) w2.heap.size 0 rfl rfl HC.out.2 rowy_chipR.2 chrO ?_; intro w15 E9 R9 T9 B9; have kp : w14.grownBy w15 (some w2.heap.size) := (by rw [E9.out]; exact keep_cells _ _ _ _); have HN : Hid (Own w6.heap.size w15 (.slice (some ⟨rn, 0, none⟩) S nc) ((pb p).set a x)) := World.ownsRow.kept HN.out kp (own_ne fun kk hkk => by have := (World.ownsRow.lt HN.out kk hkk).1; have := HL.out; omega); have HG := hdH (HG.out.kept kp (own_ne fun kk hkk => by have := (HG.out.1.lt kk hkk).1; have := HL.out; omega)); have HO := hdH (HO.out.kept kp (own_ne fun kk hkk => by have := (HO.out.1.lt kk hkk).1; have := HL.out; omega)); have BB := bG BB kp (by have := HL.out; omega); have HR9 := hdH (R9); clear E9 R9 T9 B9 kp t14)
  | (have q13 := t13; (with_reducible refine at_store ?_); refine store_law1 _ w.heap.size 6 (.slice (some ⟨r, 0, none⟩) N rc) rfl rfl (HA.out.there1 6 (by simp [chr])) (HA.out.free 6 (by simp [chr])) one_blks.2 rfl rfl ?_; intro w14 E9; have kp : w13.grownBy w14 (some w.heap.size) := (by rw [E9.out]; exact keep_set _ _ _ _); have HC := hdH (HC.out.kept kp (vlt HC.out) (by have := HL.out; simp; omega)); have HX := hdH (HX.out.kept kp (vlt HX.out) (by have := HL.out; simp; omega)); have HN : Hid (Own w6.heap.size w14 (.slice (some ⟨rn, 0, none⟩) S nc) ((pb p).set a x)) := World.ownsRow.kept HN.out kp (own_ne fun kk hkk => by have := (World.ownsRow.lt HN.out kk hkk).1; have := HL.out; omega); have HG := hdH (HG.out.kept kp (own_ne fun kk hkk => by have := (HG.out.1.lt kk hkk).1; have := HL.out; omega)); have HO := hdH (HO.out.kept kp (own_ne fun kk hkk => by have := (HO.out.1.lt kk hkk).1; have := HL.out; omega)); have BB := bG BB kp (by have := HL.out; omega); have z9 := HA.out.set 6 (by simp [chr]) (.slice (some ⟨r, 0, none⟩) N rc); rw [← E9.out] at z9; have HA := hdH (z9); obtain ⟨r0, r1, r2, r3, r4, r5, r6, r7, r8, r9⟩ := vK10 HA.out; clear z9 E9 kp t13; have t14 := tR)
  | (have q12 := t12; (with_reducible refine at_store ?_); refine store_lawC _ (bkc (.slice (some ⟨rg, 0, none⟩) P gc) (.slice (some ⟨yb, yo, none⟩) P yc) (l b) (s b) (e b)) r (b * 5) rfl rfl HTh.out rowy_blk.2 bkcO ?_; intro w13 E9 R9 T9 B9; have kp : w12.grownBy w13 (some r) := (by rw [E9.out]; exact keep_cells _ _ _ _); have HA := hdH (HA.out.kept kp (vlt HA.out) (by have := HL.out; have := lr; simp; omega)); have HC := hdH (HC.out.kept kp (vlt HC.out) (by have := HL.out; have := lr; simp; omega)); have HX := hdH (HX.out.kept kp (vlt HX.out) (by have := HL.out; have := lr; simp; omega)); have HN : Hid (Own w6.heap.size w13 (.slice (some ⟨rn, 0, none⟩) S nc) ((pb p).set a x)) := World.ownsRow.kept HN.out kp (own_apart HN.out HO.out.1 (by decide)); have HG := hdH (HG.out.kept kp (own_apart HG.out.1 HO.out.1 (by decide))); have BB := hdH (BB.out.trans ((Below.refl w.heap.size _).grown kp BB.out.size (fun kk hkk => by have hk9 := Option.some.inj hkk; have := HL.out; have := lr; omega))); have z9 := HO.out.put LN.out b hb (bkc (.slice (some ⟨rg, 0, none⟩) P gc) (.slice (some ⟨yb, yo, none⟩) P yc) (l b) (s b) (e b)) rfl; rw [← E9.out, bks_set N gv uv l s e b _ _ _ _ _ hb] at z9; have HO := hdH (z9); clear x0 x1 x2 x3 x4 u0 u1; clear z9 E9 R9 T9 B9 kp HP t12; have t13 := tR)
  | (have q11 := t11; at_builtin; refine push_lawT _ Try.underlying36 _ 5 72 info_blk rfl (by omega) w6.heap.size (by simp; omega) _ _ [] (bks N gv uv l s e) rfl rfl (OwR.empty w11 50 5 l11) YB.out H1b.out (by rw [LN.out]; simp; omega) (by rw [LN.out]; simp; omega) (by rw [LN.out]; omega) ?_; intro v12 w12 O12 kp; rw [List.nil_append] at O12; have ne9 : ∀ x, x < w11.heap.size → some x ≠ (Value.slice (some ⟨w11.heap.size, 0, none⟩) 0 0).ownBlock := fun x hx e => (by have z : x = w11.heap.size := Option.some.inj e; omega); have HA := hdH (HA.out.kept kp (vlt HA.out) (ne9 _ (by have := HL.out; omega))); have HC := hdH (HC.out.kept kp (vlt HC.out) (ne9 _ (by have := HL.out; omega))); have HX := hdH (HX.out.kept kp (vlt HX.out) (ne9 _ (by have := HL.out; omega))); have HP := hdH (HP.out.heap (kp.block _ (HP.out.lt (by simp)) (ne9 _ (by have := HL.out; omega)))); have HN : Hid (Own w6.heap.size w12 (.slice (some ⟨rn, 0, none⟩) S nc) ((pb p).set a x)) := World.ownsRow.kept HN.out kp (own_apart HN.out (OwR.empty w11 50 5 l11).1 (by decide)); have HG := hdH (HG.out.kept kp (own_apart HG.out.1 (OwR.empty w11 50 5 l11).1 (by decide))); have BB := hdH (BB.out.trans ((Below.refl w.heap.size _).grown kp BB.out.size (fun kk hkk => by have hk9 : w11.heap.size = kk := Option.some.inj hkk; have := HL.out; omega))); obtain ⟨r, rc, rfl, hr9, hrow⟩ := O12.row (by rw [LN.out]; omega); rw [LN.out] at O12 hrow ⊢; have HO := hdH (O12); have lr : w6.heap.size ≤ r := hr9; have HTh : Hid (w12.there r (b * 5) 5) := (hrow b hb).2; clear r0 r1 r2 r3 r4 r5 r6 r7 r8 r9; obtain ⟨x0, x1, x2, x3, x4⟩ := vK5 HX.out; have u0 : w12.cell? ⟨w1.heap.size, 0, none⟩ = some (.int .i64 (b : Int)) := HP.out.cell0 0 (by simp); have u1 : w12.cell? ⟨w1.heap.size, 1, none⟩ = some (.int .i64 (p : Int)) := HP.out.cell0 1 (by simp); clear O12 kp ne9 hr9 hrow YB t11; have t12 := tR)
  | (have q10 := t10; (with_reducible refine at_store ?_); refine store_law1 _ rg p (.slice (some ⟨rn, 0, none⟩) S nc) rfl rfl (owr_there HG.out (by rw [LP.out]; exact hp)).1 (owr_there HG.out (by rw [LP.out]; exact hp)).2 one_bytes.2 rfl rfl ?_; intro w11 E9; have kp : w10.grownBy w11 (some rg) := (by rw [E9.out]; exact keep_set _ _ _ _); have HA := hdH (HA.out.kept kp (vlt HA.out) (by have := HL.out; have := lg; simp; omega)); have HC := hdH (HC.out.kept kp (vlt HC.out) (by have := HL.out; have := lg; simp; omega)); have HX := hdH (HX.out.kept kp (vlt HX.out) (by have := HL.out; have := lg; simp; omega)); have HP := hdH (HP.out.heap (kp.block _ (HP.out.lt (by simp)) (by have := HL.out; have := lg; simp; omega))); have HN : Hid (Own w6.heap.size w11 (.slice (some ⟨rn, 0, none⟩) S nc) ((pb p).set a x)) := World.ownsRow.kept HN.out kp (own_apart HN.out HG.out.1 (by decide)); have BB := hdH (BB.out.trans ((Below.refl w.heap.size _).grown kp BB.out.size (fun kk hkk => by have hk9 := Option.some.inj hkk; have := HL.out; have := lg; omega))); have z9 := HG.out.put1 (pgc_len P xv) hp E9.out; rw [pgc_set P xv p (.slice (some ⟨rn, 0, none⟩) S nc) hp] at z9; have HG := hdH (z9); have l11 : w6.heap.size ≤ w11.heap.size := (by have := (HG.out.1.lt rg rfl).2; have := lg; omega); have ha9 : Below w11.heap.size w11 (w11.alloc (.cells #[] 50)) := (Below.refl _ _).alloc (Nat.le_refl _) _; clear x0 x1 x2 x3 x4 u0 u1; have HA := vB HA ha9 (vlt HA.out); have HC := vB HC ha9 (vlt HC.out); have HX := vB HX ha9 (vlt HX.out); have HP := hdH (HP.out.below ha9 (HP.out.lt (by simp))); have HN := hdH (own_low HN.out ha9); have HG := hdH (HG.out.low ha9); have BB := bT BB ha9; obtain ⟨r0, r1, r2, r3, r4, r5, r6, r7, r8, r9⟩ := vK10 HA.out; have YB : Hid (Rws (w11.alloc (.cells #[] 50)) (.slice (some ⟨bb, off, none⟩) N bc) 5 (bks N gv uv l s e)) := HR.out _ BB.out; clear ha9 z9 E9 kp t10; have t11 := tR)
  | (have q9 := t9; (with_reducible refine at_store ?_); refine store_law1 _ rn a (.int .u8 x) rfl rfl (by rw [cn]; rfl) fn one_u8 rfl rfl ?_; intro w10 E9; have kp : w9.grownBy w10 (some rn) := (by rw [E9.out]; exact keep_set _ _ _ _); have HA := hdH (HA.out.kept kp (vlt HA.out) (by have := HL.out; have := ln; simp; omega)); have HC := hdH (HC.out.kept kp (vlt HC.out) (by have := HL.out; have := ln; simp; omega)); have HX := hdH (HX.out.kept kp (vlt HX.out) (by have := HL.out; have := ln; simp; omega)); have HP := hdH (HP.out.heap (kp.block _ (HP.out.lt (by simp)) (by have := HL.out; have := ln; simp; omega))); have BB := hdH (BB.out.trans ((Below.refl w.heap.size _).grown kp BB.out.size (fun kk hkk => by have hk9 := Option.some.inj hkk; have := HL.out; have := ln; omega))); have HG := hdH (HG.out.kept kp (own_apart HG.out.1 HN.out (by decide))); have z9 := own_set HN.out LB.out a x; rw [← E9.out] at z9; have HN := hdH (z9); obtain ⟨x0, x1, x2, x3, x4⟩ := vK5 HX.out; have u0 : w10.cell? ⟨w1.heap.size, 0, none⟩ = some (.int .i64 (b : Int)) := HP.out.cell0 0 (by simp); have u1 : w10.cell? ⟨w1.heap.size, 1, none⟩ = some (.int .i64 (p : Int)) := HP.out.cell0 1 (by simp); clear cn fn z9 E9 kp t9; have t10 := tR)
  | (have q8 := t8; at_builtin; refine push_lawB _ w6.heap.size (by simp; omega) _ _ [] (pb p) rfl rfl (Own.empty w8 l8) YP.out (by rw [LB.out]; simp; omega) ?_; intro v9 w9 O9 kp; rw [List.nil_append] at O9; have ne9 : ∀ x, x < w8.heap.size → some x ≠ (Value.slice (some ⟨w8.heap.size, 0, none⟩) 0 0).ownBlock := fun x hx e => (by have z : x = w8.heap.size := Option.some.inj e; omega); have HA := hdH (HA.out.kept kp (vlt HA.out) (ne9 _ (by have := HL.out; omega))); have HC := hdH (HC.out.kept kp (vlt HC.out) (ne9 _ (by have := HL.out; omega))); have HX := hdH (HX.out.kept kp (vlt HX.out) (ne9 _ (by have := HL.out; omega))); have HP := hdH (HP.out.heap (kp.block _ (HP.out.lt (by simp)) (ne9 _ (by have := HL.out; omega)))); have HG := hdH (HG.out.kept kp (own_apart HG.out.1 (Own.empty w8 l8) (by decide))); have BB := hdH (BB.out.trans ((Below.refl w.heap.size _).grown kp BB.out.size (fun kk hkk => by have hk9 : w8.heap.size = kk := Option.some.inj hkk; have := HL.out; omega))); obtain ⟨rn, nc, rfl, oc⟩ := own_row O9 (by rw [LB.out]; omega); rw [LB.out] at oc ⊢; have HN : Hid (Own w6.heap.size w9 (.slice (some ⟨rn, 0, none⟩) S nc) (pb p)) := oc.own; have ln : w6.heap.size ≤ rn := oc.2.1; have cn := oc.cell ha9; have fn := oc.free a; clear x0 x1 x2 x3 x4 u0 u1 cx; clear O9 kp ne9 oc YP t8; have t9 := tR)
  | (have q7 := t7; (with_reducible refine at_store ?_); refine store_law1 _ w4.heap.size 0 (.slice (some ⟨rg, 0, none⟩) P gc) rfl rfl (HX.out.there1 0 (by simp [bkc])) (HX.out.free 0 (by simp [bkc])) one_pages.2 rfl rfl ?_; intro w8 E9; have kp : w7.grownBy w8 (some w4.heap.size) := (by rw [E9.out]; exact keep_set _ _ _ _); have HA := hdH (HA.out.kept kp (vlt HA.out) (by have := HL.out; simp; omega)); have HC := hdH (HC.out.kept kp (vlt HC.out) (by have := HL.out; simp; omega)); have HP := hdH (HP.out.heap (kp.block _ (HP.out.lt (by simp)) (by have := HL.out; simp; omega))); have HG := hdH (HG.out.kept kp (own_ne fun kk hkk => by have := (HG.out.1.lt kk hkk).1; have := HL.out; omega)); have BB := bG BB kp (by have := HL.out; omega); have z9 := HX.out.set 0 (by simp [bkc]) (.slice (some ⟨rg, 0, none⟩) P gc); rw [← E9.out] at z9; have HX := hdH (z9); have l8 : w6.heap.size ≤ w8.heap.size := (by have := (HG.out.1.lt rg rfl).2; have := lg; omega); have ha9 : Below w8.heap.size w8 (w8.alloc (.cells #[] 5)) := (Below.refl _ _).alloc (Nat.le_refl _) _; have HA := vB HA ha9 (vlt HA.out); have HC := vB HC ha9 (vlt HC.out); have HX := vB HX ha9 (vlt HX.out); have HP := hdH (HP.out.below ha9 (HP.out.lt (by simp))); have HG := hdH (HG.out.low ha9); have BB := bT BB ha9; obtain ⟨x0, x1, x2, x3, x4⟩ := vK5 HX.out; have u0 : (w8.alloc (.cells #[] 5)).cell? ⟨w1.heap.size, 0, none⟩ = some (.int .i64 (b : Int)) := HP.out.cell0 0 (by simp); have u1 : (w8.alloc (.cells #[] 5)).cell? ⟨w1.heap.size, 1, none⟩ = some (.int .i64 (p : Int)) := HP.out.cell0 1 (by simp); have cx := owr_cell HG.out (by rw [LP.out]; exact hp) (pgc_el P xv p hp); have YP : Hid (Byt (w8.alloc (.cells #[] 5)) (xv p) (pb p)) := HXb.out _ BB.out; clear ha9 z9 E9 kp t7; have t8 := tR)
  | (have q6 := t6; at_builtin; refine push_lawT _ Try.underlying47 _ 1 24 info_bytes rfl (by omega) w6.heap.size (by simp) _ _ [] (pgc P xv) rfl rfl (OwR.empty w6 53 1 (Nat.le_refl _)) YX.out H1p.out (by rw [LP.out]; simp; omega) (by rw [LP.out]; simp; omega) (by rw [LP.out]; omega) ?_; intro v7 w7 O7 kp; rw [List.nil_append] at O7; have ne9 : ∀ x, x < w6.heap.size → some x ≠ (Value.slice (some ⟨w6.heap.size, 0, none⟩) 0 0).ownBlock := fun x hx e => (by have z : x = w6.heap.size := Option.some.inj e; omega); have HA := hdH (HA.out.kept kp (vlt HA.out) (ne9 _ (by have := HL.out; omega))); have HC := hdH (HC.out.kept kp (vlt HC.out) (ne9 _ (by have := HL.out; omega))); have HX := hdH (HX.out.kept kp (vlt HX.out) (ne9 _ (by have := HL.out; omega))); have HP := hdH (HP.out.heap (kp.block _ (HP.out.lt (by simp)) (ne9 _ (by have := HL.out; omega)))); have BB := hdH (BB.out.trans ((Below.refl w.heap.size _).grown kp BB.out.size (fun kk hkk => by have hk9 : w6.heap.size = kk := Option.some.inj hkk; have := HL.out; omega))); obtain ⟨rg, gc, rfl, hr9, hrow⟩ := O7.row (by rw [LP.out]; omega); rw [LP.out] at O7 hrow ⊢; have HG := hdH (O7); have lg : w6.heap.size ≤ rg := hr9; clear x0 x1 x2 x3 x4; clear O7 kp ne9 hr9 hrow YX t6; have t7 := tR)
  | (have q5 := t5; (with_reducible refine at_store ?_); refine store_lawC _ (bkc (.slice (some ⟨xb, xo, none⟩) P xc) (.slice (some ⟨yb, yo, none⟩) P yc) (l b) (s b) (e b)) w4.heap.size 0 rfl rfl HX0.out.2 rowy_blk.2 bkcO ?_; intro w6 E6 R6 T6 B6; have HX : Hid (Vr w6 w4.heap.size (bkc (.slice (some ⟨xb, xo, none⟩) P xc) (.slice (some ⟨yb, yo, none⟩) P yc) (l b) (s b) (e b))) := ⟨R6, T6⟩; have HA := hdH (HA.out.below B6 (by have := HL.out; omega)); have HC := hdH (HC.out.below B6 (by have := HL.out; omega)); have HP := hdH (HP.out.below B6 (by have := HL.out; omega)); have BB := hdH (BB.out.trans (B6.mono (by have := HL.out; omega))); have l6 : w4.heap.size < w6.heap.size := Nat.lt_of_lt_of_le l5 B6.size; clear E6 R6 T6 B6 t5; have ha9 : Below w6.heap.size w6 (w6.alloc (.cells #[] 53)) := (Below.refl _ _).alloc (Nat.le_refl _) _; have HA := vB HA ha9 (vlt HA.out); have HC := vB HC ha9 (vlt HC.out); have HX := vB HX ha9 (vlt HX.out); have HP := hdH (HP.out.below ha9 (HP.out.lt (by simp))); have BB := bT BB ha9; obtain ⟨x0, x1, x2, x3, x4⟩ := vK5 HX.out; have YX : Hid (Rws (w6.alloc (.cells #[] 53)) (.slice (some ⟨xb, xo, none⟩) P xc) 1 (pgc P xv)) := HXr.out _ BB.out; clear ha9; have t6 := tR)
  | (have q4 := t4; (with_reducible refine at_alloc ?_); refine new_lawC _ _ zero_blk ?_; intro w5 V5 B5 l5; have HX0 := hdH (V5); have HA := vB HA B5 (vlt HA.out); have HC := vB HC B5 (vlt HC.out); have HP := hdH (HP.out.below B5 (HP.out.lt (by simp))); have BB := bT BB B5; clear d0 d1 d2 d3 d4; clear r0 r1 r2 r3 r4 r5 r6 r7 r8 r9; clear u0 u1 V5 B5 t4; have t5 := tR)
  | (have q3 := t3; go_at_call 23; refine (SR.out _).mono ?_; rintro e9 w4 ⟨rfl, B4⟩; have HC := vB HC B4 (vlt HC.out); have HA := vB HA B4 (vlt HA.out); have HP := hdH (HP.out.below B4 (HP.out.lt (by simp))); have BB := bT BB B4; have HL : Hid (w.heap.size < w1.heap.size ∧ w1.heap.size < w2.heap.size ∧ w2.heap.size < w4.heap.size) := ⟨l1, l2, Nat.lt_of_lt_of_le l3 B4.size⟩; clear r0 r1 r2 r3 r4 r5 r6 r7 r8 r9; clear u0 u1; obtain ⟨r0, r1, r2, r3, r4, r5, r6, r7, r8, r9⟩ := vK10 HA.out; have u0 : w4.cell? ⟨w1.heap.size, 0, none⟩ = some (.int .i64 (b : Int)) := HP.out.cell0 0 (by simp); have u1 : w4.cell? ⟨w1.heap.size, 1, none⟩ = some (.int .i64 (p : Int)) := HP.out.cell0 1 (by simp); have hcc := HC0.out w4 BB.out; have d0 := hcc 0 _ rfl; rw [Nat.add_zero] at d0; have d1 := hcc 1 _ rfl; have d2 := hcc 2 _ rfl; have d3 := hcc 3 _ rfl; have d4 := hcc 4 _ rfl; clear hcc B4 t3; have t4 := tR)
  | (have q2 := t2; (with_reducible refine at_alloc ?_); refine new_lawC _ _ zero_chr ?_; intro w3 V3 B3 l3; have HC := hdH (V3); have HA := vB HA B3 (vlt HA.out); have HP := hdH (HP.out.below B3 (HP.out.lt (by simp))); have BB := bT BB B3; obtain ⟨r0, r1, r2, r3, r4, r5, r6, r7, r8, r9⟩ := vK10 HA.out; have u0 : w3.cell? ⟨w1.heap.size, 0, none⟩ = some (.int .i64 (b : Int)) := HP.out.cell0 0 (by simp); have u1 : w3.cell? ⟨w1.heap.size, 1, none⟩ = some (.int .i64 (p : Int)) := HP.out.cell0 1 (by simp); clear V3 B3 t2; have t3 := tR)
  | (have q1 := t1; refine box_lawF _ rfl (.tmp 1) 43 rfl .i64 [(b : Int), (p : Int)] rfl ?_; intro w2 X2 B2 l2; have HP := hdH (X2); have HA := vB HA B2 (vlt HA.out); have BB := bT BB B2; clear X2 B2 t1; have t2 := tR)
  | (have q0 := t0; refine box_lawC _ (chr [(N : Int), P, g2, g3, g4, g5] (.slice (some ⟨bb, off, none⟩) N bc) (.slice po pn pc) true (n : Int)) rfl ?_; intro w1 V1 B1 l1; have HA := hdH (V1); have BB := hdH (B1); clear V1 B1 t0; have t1 := tR))
 all_goals exact bodyPost_ret (v := .tuple #[.agg (chr [(N : Int), P, g2, g3, g4, g5] (.slice (some ⟨r, 0, none⟩) N rc) (.slice po pn pc) true (n : Int)).toArray, .int .i64 0]) (results_cv rfl _ _ w2.heap.size _ _ rowy_chipR rfl rfl HR9.out) rfl ⟨r, rc, _, _, rfl, by rw [hy']; exact HO.out.base (by have := HL.out; omega), HG.out.base (by have := HL.out; omega), own_base HN.out (by have := HL.out; omega), BB.out⟩
end Go.Proofs.Ytikcohjhhoiakaa.na
