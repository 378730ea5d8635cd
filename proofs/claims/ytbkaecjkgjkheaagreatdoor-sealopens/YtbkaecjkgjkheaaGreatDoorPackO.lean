/- Texts put together (a claim holds few files). No claim of its own. -/
import Derived.Test.YtbkaecjkgjkheaaGreatDoorPackB
import Derived.Test.YtbkaecjkgjkheaaGreatDoorPackN
import Derived.Test.YtbkaecjkgjkheaaGreatDoorPackA
import Derived.Lib.AppendZeros
import Derived.Lib.SliceRun
import Derived.Test.YtbkaecjkgjkheaaGreatDoorPackM
import Derived.Deep.RegionHeld3
import Derived.Deep.DeepCutAuto
import Derived.Test.YtbkaecjkgjkheaaGreatDoorPackH
/- What slices.Grow, slices.Concat (of two, and of four) and bytes.Clone answer. No claim of its own. -/
namespace Go.Proofs.YtbkaecjkgjkheaaGreatDoor.he
open Go.RowKit Go.Proofs.YtbkaecjkgjkheaaGreatDoor.fa
set_option maxRecDepth 20000

section
variable {ops : Array Oper} {rest : List Oper} {o : Oper} {a : Act} {Q : Exit → Act → World → Prop}
/-- 'append(nil, make([]byte, n)...)': room for n bytes -/
theorem zeros_law (w : World) (hg : o.guard = none) (s x : Operand) (hop : o.op = .call { callee := .builtin .append, args := #[s, x], argTypes := #[22, 3] })
    (L : Int) (n : Nat) (hs : a.eval s = .slice none 0 0) (hx : a.eval x = .int .i64 L) (hL : L = (n : Int)) (hp : 0 < n) (hn : n ≤ 1000000)
    (hK : ∀ cap w', n ≤ cap → cap ≤ 9223372036854775807 → Own w.heap.size w' (.slice (some ⟨w.heap.size, 0, none⟩) 0 cap) [] → Below w.heap.size w w' → wpList Tryz.prog ops Q rest (a.put o.dst (.slice (some ⟨w.heap.size, 0, none⟩) n cap)) w') :
    wpList Tryz.prog ops Q (o :: rest) a w := by
  refine wpList_plain hg fun K hK' => ?_
  obtain ⟨i0, hi, hz0, hz1, hz2⟩ := info_parts info_u8
  subst hL
  have hrun := Lib.run_append_nil_zeros (P := Tryz.prog) w 22 3 o.type 5 i0 (.int .u8 0) .i64 .i64 Tryz.underlying22 Tryz.underlying3 hi hz0 n hp (by rw [hz1]; decide) (by omega) (by rw [hz2]; omega)
  have hge := grownCap_ge w n 0 5
  have hcm : grownCap w n 0 5 ≤ maxLen := grownCap_le_maxLen w n 0 5 (by simp only [maxLen]; omega)
  unfold Oper.wp
  simp [execOp, hop, resolve, invoke, builtin, hs, hx, hrun, Result.andThen]
  refine hK' _ _ (hK _ _ hge (by simpa [maxLen] using hcm) ⟨by simp, .inr ⟨w.heap.size, _, _, rfl, Nat.le_refl _, heap_alloc_new w.drew _, Nat.zero_le _, hcm, ?_, by simp⟩⟩ ((Below.refl _ _).drew.alloc (Nat.le_refl _) _))
  have hz : (Value.int .u8 0).cells.size = 1 := rfl
  simp only [Array.size_append, size_zeroCells, hz]
  omega
end

set_option maxHeartbeats 1000000 in
theorem grow_any (n : Nat) (w : World) (hp : 0 < n) (hn : n ≤ 1000000) :
    Calls Tryz.prog 53 #[.slice none 0 0, .int .i64 (n : Int)] w fun e w' => ∃ v, e = .returned v ∧ Own w.heap.size w' v [] ∧ Below w.heap.size w w' := by
  have k1 : ¬ ((n : Int) < 0) := by omega
  have k2 : IntKind.i64.wrap ((n : Int) - 0) = (n : Int) := by rw [IntKind.wrap_i64]; omega
  have k3 : IntKind.i64.wrap (n : Int) = (n : Int) := by rw [IntKind.wrap_i64]; omega
  have k4 : (n : Int) > 0 := by omega
  go_enter Tryz.func53, Tryz.ntmps53
  go_wp2_with (at_builtin; refine zeros_law _ rfl (.tmp 20) (.tmp 21) rfl (n : Int) n rfl rfl rfl hp hn ?_; intro cap w1 c1 c2 o1 B1; have O1 : Hid (Own w.heap.size w1 (.slice (some ⟨w.heap.size, 0, none⟩) 0 cap) []) := o1; have c3 : (0 : Int) ≤ (cap : Int) := (by omega); clear o1)
  go_ret
  exact ⟨_, rfl, O1.out, B1⟩

/-- the first k of some lists, one behind the other -/
def cats (xss : List (List Int)) (k : Nat) : List Int := (xss.take k).flatten
theorem cats_succ (xss : List (List Int)) (k : Nat) (h : k < xss.length) : cats xss (k + 1) = cats xss k ++ xss.getD k [] := by
  unfold cats
  rw [List.take_succ_eq_append_getElem h, List.flatten_append]
  simp [List.getD, h]
theorem cats_len (xss : List (List Int)) (h : ∀ k, k < xss.length → (xss.getD k []).length ≤ 10000) (k : Nat) (hk : k ≤ xss.length) : (cats xss k).length ≤ k * 10000 := by
  induction k with
  | zero => simp [cats]
  | succ k ih =>
    rw [cats_succ xss k (by omega), List.length_append]
    have := ih (by omega)
    have := h k (by omega)
    omega

set_option linter.unusedSimpArgs false in
set_option maxHeartbeats 4000000 in
theorem concat_any (c m : Nat) (u : Nat → Value) (xss : List (List Int)) (w : World) (hm : xss.length = m) (hm8 : m ≤ 8) (hu : ∀ k, k < m → Byt w (u k) (xss.getD k [])) (hl : ∀ k, k < xss.length → (xss.getD k []).length ≤ 10000) (hp : 0 < (cats xss m).length) (hc : ∀ k, k < m → w.cell? ⟨c, k, none⟩ = some (u k)) :
    Calls Tryz.prog 30 #[.slice (some ⟨c, 0, none⟩) m m] w fun e w' => ∃ r, e = .returned r ∧ Own w.heap.size w' r (cats xss m) ∧ Below w.heap.size w w' := by
  have HG : Hid (∀ w, Calls Tryz.prog 53 #[.slice none 0 0, .int .i64 (((cats xss m).length : Nat) : Int)] w fun e w' => ∃ v, e = .returned v ∧ Own w.heap.size w' v [] ∧ Below w.heap.size w w') := fun w => grow_any _ w hp (by have := cats_len xss hl m (by omega); omega)
  have HL : Hid (∀ k, k ≤ m → (cats xss k).length ≤ 80000) := fun k hk => by have := cats_len xss hl k (by omega); omega
  have HS : Hid (∀ k, k < m → cats xss (k + 1) = cats xss k ++ xss.getD k []) := fun k hk => cats_succ xss k (by omega)
  have HU : Hid (∀ k, k < m → Byt w (u k) (xss.getD k [])) := hu
  have HX : Hid (∀ k, k < m → (xss.getD k []).length ≤ 10000) := fun k hk => hl k (by omega)
  have HC : Hid (∀ k, k < m → w.cell? ⟨c, k, none⟩ = some (u k)) := hc
  have H0 : Hid (cats xss 0 = []) := rfl
  clear hu hc hl
  obtain ⟨f, hf⟩ : ∃ f : Nat → Nat, f = fun k => (cats xss k).length := ⟨_, rfl⟩
  have HF : Hid (∀ k, (cats xss k).length = f k) := fun k => by rw [hf]
  have hfm : f m = (cats xss m).length := by rw [hf]
  rw [← hfm] at HG hp
  have F0 : Hid (f 0 = 0) := by rw [hf]; rfl
  clear hf hfm
  go_enter Tryz.func30, Tryz.ntmps30
  go_wp2
  go_loopw [11, 3] (fun i z wr => ∃ k : Nat, k ≤ m ∧ i = .int .i64 (k : Int) ∧ z = .int .i64 ((f k : Nat) : Int) ∧ wr = w) (fun i _ _ => m - (intOf i).toNat)
  case atStart => exact ⟨0, Nat.zero_le _, rfl, by rw [F0.out]; rfl, rfl⟩
  case round =>
    obtain ⟨k, hk, rfl, rfl, rfl⟩ := hrel
    by_cases hlt : k < m
    · have cc := HC.out k hlt
      have yy := HU.out k hlt
      have lx := HX.out k hlt
      have e1 : f (k + 1) = f k + (xss.getD k []).length := by rw [← HF.out, ← HF.out, HS.out k hlt, List.length_append]
      have l1 : f k ≤ 80000 := by rw [← HF.out]; exact HL.out k hk
      generalize xss.getD k [] = ys at yy lx e1
      obtain ⟨uo, uc, hue, -⟩ := yy
      rw [hue] at cc
      generalize ys.length = a at *
      generalize f k = z at *
      have FK : Hid (f (k + 1) = z + a) := e1
      clear e1 hue
      have q1 : IntKind.i64.wrap ((z : Int) + (a : Int)) = (z : Int) + (a : Int) := by rw [IntKind.wrap_i64]; omega
      have q2 : ¬ ((z : Int) + (a : Int) < 0) := by omega
      go_wp2
      go_roundw
      case rel => exact ⟨k + 1, by omega, by go_num, by rw [FK.out]; rfl, trivial⟩
      case measure => simp [intOf]; omega
    · have hks : k = m := by omega
      subst hks
      obtain ⟨wa, rfl⟩ : ∃ wx, wx = wr := ⟨_, rfl⟩
      go_wp2_with (go_at_call 53; refine (HG.out _).mono ?_; rintro e w1 ⟨v1, rfl, o1, B1⟩; have O1 : Hid (Own wa.heap.size w1 v1 []) := o1; clear o1)
      go_loopw [27, 6] (fun i o wx => ∃ j : Nat, j ≤ k ∧ i = .int .i64 (j : Int) ∧ Own wa.heap.size wx o (cats xss j) ∧ Below wa.heap.size wa wx) (fun i _ _ => k - (intOf i).toNat)
      case atStart => exact ⟨0, Nat.zero_le _, rfl, O1.out, B1⟩
      case round =>
        clear B1 O1
        obtain ⟨j, hj, rfl, o2, B2⟩ := hrel
        by_cases hlj : j < k
        · have cc : wr.cell? ⟨c, j, none⟩ = some (u j) := (B2.cell (World.block_lt_of_cell? _ _ (HC.out j hlj))).trans (HC.out j hlj)
          have yy := (HU.out j hlj).below B2
          have lx := HX.out j hlj
          have lc := HL.out j hj
          have e1 := HS.out j hlj
          generalize xss.getD j [] = ys at yy lx e1
          have YY : Hid (Byt wr (u j) ys) := yy
          have O2 : Hid (Own wa.heap.size wr u6 (cats xss j)) := o2
          have E1 : Hid (cats xss (j + 1) = cats xss j ++ ys) := e1
          have z2 := B2.size
          have LL : Hid (ys.length ≤ 10000 ∧ (cats xss j).length ≤ 80000) := ⟨lx, lc⟩
          generalize u j = uj at *
          clear o2 yy e1 lx lc
          go_wp2_with (at_builtin; refine pushs_law _ rfl (.tmp 31) (.tmp 32) rfl wa.heap.size z2 _ _ (cats xss j) ys rfl rfl O2.out YY.out (by have := LL.out; omega) ?_; intro v3 w3 o3 B3; have O3 : Hid (Own wa.heap.size w3 v3 (cats xss j ++ ys)) := o3; clear o3)
          go_roundw
          case rel => exact ⟨j + 1, by omega, by go_num, by rw [E1.out]; exact O3.out, B2.trans B3⟩
          case measure => simp [intOf]; omega
        · have hjs : j = k := by omega
          subst hjs
          go_wp2
          go_ret
          exact ⟨_, rfl, o2, B2⟩
end Go.Proofs.YtbkaecjkgjkheaaGreatDoor.he

/- What head's Bytes answers. No claim of its own. -/
namespace Go.Proofs.YtbkaecjkgjkheaaGreatDoor.he
open Go.RowKit Go.Proofs.YtbkaecjkgjkheaaGreatDoor.fa
set_option maxRecDepth 20000

/-- 'make([]byte, 0, n)' -/
theorem room_law {ops : Array Oper} {rest : List Oper} {o : Oper} {a : Act} {Q : Exit → Act → World → Prop} (w : World) (hg : o.guard = none) (l c : Operand) (hop : o.op = Op.makeSlice 22 l c) (B : Nat) (hB : B ≤ w.heap.size)
    (n : Nat) (hl : a.eval l = .int .i64 0) (hc : a.eval c = .int .i64 (n : Int)) (hn : n ≤ 1099511627776)
    (hK : ∀ w', Own B w' (.slice (some ⟨w.heap.size, 0, none⟩) 0 n) [] → Below B w w' → w.heap.size < w'.heap.size → wpList Tryz.prog ops Q rest (a.put o.dst (.slice (some ⟨w.heap.size, 0, none⟩) 0 n)) w') :
    wpList Tryz.prog ops Q (o :: rest) a w := by
  obtain ⟨i0, hi, hz0, hz1, hz2⟩ := info_parts info_u8
  refine wpList_make_own w hg l c 22 hop B 5 i0 (.int .u8 0) 1 Tryz.underlying22 hi hz0 hz1 .i64 .i64 (n : Int) n hl hc rfl (by rw [hz2]; omega) (by simp only [maxLen]; omega) hB fun w' h1 h2 => ?_
  exact hK w' h1 ((Below.refl B w).grown h2 hB (fun k hk => by cases hk)) (h1.lt w.heap.size rfl).2

theorem own_low {B : Nat} {w w' : World} {v : Value} {xs : List Int} (h : Own B w v xs) (hb : Below w.heap.size w w') : Own B w' v xs := World.ownsRow.kept h ⟨hb.os, hb.tape, hb.output, hb.size, fun j hj _ => hb.block j hj⟩ (by cases hv : v.ownBlock <;> simp) (row := none)
theorem own_less {w : World} {B B' : Nat} {v : Value} {xs : List Int} (h : Own B w v xs) (hB : B' ≤ B) : Own B' w v xs := by
  obtain ⟨a1, a2⟩ := h
  refine ⟨a1, ?_⟩
  rcases a2 with e1 | ⟨g', c', u', e1, e2, e3⟩
  · exact Or.inl e1
  · exact Or.inr ⟨g', c', u', e1, by omega, e3⟩
/-- the seven numbers' bytes -/
def prts (k n c l e t : Int) : List (List Int) := [[k], [n], [c], [0], be l 4, be e 8, be t 8]
theorem prts_hb (k n c l e t : Int) : cats (prts k n c l e t) 7 = hb k n c l e t := by simp [cats, prts, hb]
theorem be1 (x : Int) (h : 0 ≤ x ∧ x ≤ 255) : (le x (clamp 1 8)).reverse = [x] := by
  show [x % 256] = [x]
  rw [Int.emod_eq_of_lt h.1 (by omega)]
theorem clamp48 : clamp 4 8 = 4 ∧ clamp 8 8 = 8 ∧ clamp 1 8 = 1 := by decide

set_option maxHeartbeats 2000000 in
theorem hbytes_no (k n c l e t : Int) (w : World) (h : ¬ Rh k n c) :
    Calls Tryz.prog 34 #[.agg (hv k n c l e t).toArray] w fun x w' => x = .returned (.tuple #[.slice none 0 0, .int .i64 2]) ∧ Below w.heap.size w w' := by
  have t0 : (0 : Nat) = 0 := rfl
  by_cases h1 : 1 ≤ k ∧ k ≤ 4
  · have K1 : Hid (true = decide (1 ≤ k ∧ k ≤ 4)) := by show _ = _; simp; omega
    by_cases h2 : 0 ≤ n ∧ n ≤ 255
    · have K2 : Hid (true = decide (0 ≤ n ∧ n ≤ 255)) := by show _ = _; simp; omega
      have K3 : Hid (false = decide (0 ≤ c ∧ c ≤ 255)) := by
        show _ = _
        have h3 : ¬ (0 ≤ c ∧ c ≤ 255) := fun q => h ⟨h1.1, h1.2, h2.1, h2.2, q.1, q.2⟩
        simp; omega
      clear h h1 h2
      go_enter Tryz.func34, Tryz.ntmps34
      go_wp2_with (first
        | (have q3 := t3; go_at_call 58; refine (byte_any c _ false K3.out).mono ?_; rintro e9 w9 ⟨rfl, hw⟩; obtain rfl := hw.symm; clear t3; have t4 : (0 : Nat) = 0 := rfl)
        | (have q2 := t2; go_at_call 58; refine (byte_any n _ true K2.out).mono ?_; rintro e9 w9 ⟨rfl, hw⟩; obtain rfl := hw.symm; clear t2; have t3 : (0 : Nat) = 0 := rfl)
        | (have q1 := t1; go_at_call 57; refine (kind_any k _ true K1.out).mono ?_; rintro e9 w9 ⟨rfl, hw⟩; obtain rfl := hw.symm; clear t1; have t2 : (0 : Nat) = 0 := rfl)
        | (have q0 := t0; refine box_lawC _ (hv k n c l e t) rfl ?_; intro w1 V1 B1 s1; have c0 := V1.cell 0 _ rfl; have c1 := V1.cell 1 _ rfl; have c2 := V1.cell 2 _ rfl; have HV : Hid (Vr w1 w.heap.size (hv k n c l e t)) := V1; clear V1 t0; have t1 : (0 : Nat) = 0 := rfl))
      go_ret2
      exact ⟨rfl, B1⟩
    · have K2 : Hid (false = decide (0 ≤ n ∧ n ≤ 255)) := by show _ = _; simp; omega
      clear h h1 h2
      go_enter Tryz.func34, Tryz.ntmps34
      go_wp2_with (first
        | (have q2 := t2; go_at_call 58; refine (byte_any n _ false K2.out).mono ?_; rintro e9 w9 ⟨rfl, hw⟩; obtain rfl := hw.symm; clear t2; have t3 : (0 : Nat) = 0 := rfl)
        | (have q1 := t1; go_at_call 57; refine (kind_any k _ true K1.out).mono ?_; rintro e9 w9 ⟨rfl, hw⟩; obtain rfl := hw.symm; clear t1; have t2 : (0 : Nat) = 0 := rfl)
        | (have q0 := t0; refine box_lawC _ (hv k n c l e t) rfl ?_; intro w1 V1 B1 s1; have c0 := V1.cell 0 _ rfl; have c1 := V1.cell 1 _ rfl; have c2 := V1.cell 2 _ rfl; have HV : Hid (Vr w1 w.heap.size (hv k n c l e t)) := V1; clear V1 t0; have t1 : (0 : Nat) = 0 := rfl))
      go_ret2
      exact ⟨rfl, B1⟩
  · have K1 : Hid (false = decide (1 ≤ k ∧ k ≤ 4)) := by show _ = _; simp; omega
    clear h h1
    go_enter Tryz.func34, Tryz.ntmps34
    go_wp2_with (first
      | (have q1 := t1; go_at_call 57; refine (kind_any k _ false K1.out).mono ?_; rintro e9 w9 ⟨rfl, hw⟩; obtain rfl := hw.symm; clear t1; have t2 : (0 : Nat) = 0 := rfl)
      | (have q0 := t0; refine box_lawC _ (hv k n c l e t) rfl ?_; intro w1 V1 B1 s1; have c0 := V1.cell 0 _ rfl; have c1 := V1.cell 1 _ rfl; have c2 := V1.cell 2 _ rfl; have HV : Hid (Vr w1 w.heap.size (hv k n c l e t)) := V1; clear V1 t0; have t1 : (0 : Nat) = 0 := rfl))
    go_ret2
    exact ⟨rfl, B1⟩

set_option maxHeartbeats 8000000 in
theorem hbytes_yes (k n c l e t : Int) (w : World) (h : Rh k n c) (hl : 0 ≤ l ∧ l ≤ 4294967295) (he : 0 ≤ e ∧ e ≤ 18446744073709551615) (ht : 0 ≤ t ∧ t ≤ 18446744073709551615) (hT : Tab w) :
    Calls Tryz.prog 34 #[.agg (hv k n c l e t).toArray] w fun x w' => ∃ v, x = .returned (.tuple #[v, .int .i64 0]) ∧ Own w.heap.size w' v (hb k n c l e t) ∧ Below w.heap.size w w' := by
  have t0 : (0 : Nat) = 0 := rfl
  obtain ⟨r1, r2, r3, r4, r5, r6⟩ := h
  have K1 : Hid (true = decide (1 ≤ k ∧ k ≤ 4)) := by show _ = _; simp; omega
  have K2 : Hid (true = decide (0 ≤ n ∧ n ≤ 255)) := by show _ = _; simp; omega
  have K3 : Hid (true = decide (0 ≤ c ∧ c ≤ 255)) := by show _ = _; simp; omega
  have SO : Hid (∀ w, Calls Tryz.prog 59 #[.agg (hv k n c l e t).toArray] w fun x w' => x = .returned (.agg #[.int .u64 k, .int .u64 n, .int .u64 c, .int .u64 0, .int .u64 l, .int .u64 e, .int .u64 t]) ∧ Below w.heap.size w w') := fun w => of_any k n c l e t w (by omega) (by omega) (by omega) hl
  have SK : Hid (∀ x, 0 ≤ x ∧ x ≤ 255 → ∀ w, Calls Tryz.prog 31 #[.int .u64 x, .int .i64 1] w fun e w' => ∃ v, e = .returned v ∧ Byt w' v [x] ∧ Below w.heap.size w w') := fun x hx w => by
    have := big_any x 1 w (by omega)
    rw [be1 x hx] at this
    exact this
  have S4 : Hid (∀ w, Calls Tryz.prog 31 #[.int .u64 l, .int .i64 4] w fun e w' => ∃ v, e = .returned v ∧ Byt w' v (be l 4) ∧ Below w.heap.size w w') := fun w => by
    have := big_any l 4 w (by omega)
    rw [clamp48.1] at this
    exact this
  have S8 : Hid (∀ x, 0 ≤ x ∧ x ≤ 18446744073709551615 → ∀ w, Calls Tryz.prog 31 #[.int .u64 x, .int .i64 8] w fun e w' => ∃ v, e = .returned v ∧ Byt w' v (be x 8) ∧ Below w.heap.size w w') := fun x hx w => by
    have := big_any x 8 w hx
    rw [clamp48.2.1] at this
    exact this
  have HE : Hid (cats (prts k n c l e t) 7 = hb k n c l e t) := prts_hb k n c l e t
  have HP : Hid ((0 ≤ k ∧ k ≤ 255) ∧ (0 ≤ n ∧ n ≤ 255) ∧ (0 ≤ c ∧ c ≤ 255)) := ⟨by omega, by omega, by omega⟩
  have H8 : Hid ((0 ≤ e ∧ e ≤ 18446744073709551615) ∧ (0 ≤ t ∧ t ≤ 18446744073709551615)) := ⟨he, ht⟩
  have HT : Hid (Tab w) := hT
  have HS : Hid (∀ j, j < 7 → cats (prts k n c l e t) (j + 1) = cats (prts k n c l e t) j ++ (prts k n c l e t).getD j []) := fun j hj => cats_succ _ j hj
  have HLN : Hid (∀ j, j ≤ 7 → (cats (prts k n c l e t) j).length ≤ 80000) := fun j hj => by
    have := cats_len (prts k n c l e t) (fun i hi => by
      have hi : i < 7 := hi
      match i, hi with
      | 0, _ => simp [prts]
      | 1, _ => simp [prts]
      | 2, _ => simp [prts]
      | 3, _ => simp [prts]
      | 4, _ => simp [prts, be_len]
      | 5, _ => simp [prts, be_len]
      | 6, _ => simp [prts, be_len]) j hj
    omega
  generalize hP : cats (prts k n c l e t) = P at *
  have H0 : Hid (P 0 = []) := by rw [← hP]; rfl
  generalize hb k n c l e t = Z at *
  clear r1 r2 r3 r4 r5 r6 hl he ht hT hP
  go_enter Tryz.func34, Tryz.ntmps34
  go_wp2_with (first
    | (have q6 := t6; go_at_call 59; refine (SO.out _).mono ?_; rintro e9 w3 ⟨rfl, B3⟩; have O3 : Hid (Own w.heap.size w3 (.slice (some ⟨w1.heap.size, 0, none⟩) 0 24) []) := own_low O2.out B3; have C3 : Hid (Below w.heap.size w w3) := C2.out.trans (B3.mono C2.out.size); clear B3 t6 c0 c1 c2 c3 c4 c5)
    | (have q4 := t4; at_make; refine room_law _ rfl _ _ rfl w1.heap.size (Nat.le_refl _) 24 rfl rfl (by omega) ?_; intro w2 o2 B2 s2; have O2 : Hid (Own w.heap.size w2 (.slice (some ⟨w1.heap.size, 0, none⟩) 0 24) []) := own_less o2 (by omega); have A2 := HV.out.below B2 s1; have c0 := A2.cell 0 _ rfl; have c1 := A2.cell 1 _ rfl; have c2 := A2.cell 2 _ rfl; have c3 := A2.cell 3 _ rfl; have c4 := A2.cell 4 _ rfl; have c5 := A2.cell 5 _ rfl; have C2 : Hid (Below w.heap.size w w2) := B1.trans (B2.mono (by omega)); clear A2 o2 B2 t4; have t6 : (0 : Nat) = 0 := rfl)
    | (have q3 := t3; go_at_call 58; refine (byte_any c _ true K3.out).mono ?_; rintro e9 w9 ⟨rfl, hw⟩; obtain rfl := hw.symm; clear t3; have t4 : (0 : Nat) = 0 := rfl)
    | (have q2 := t2; go_at_call 58; refine (byte_any n _ true K2.out).mono ?_; rintro e9 w9 ⟨rfl, hw⟩; obtain rfl := hw.symm; clear t2; have t3 : (0 : Nat) = 0 := rfl)
    | (have q1 := t1; go_at_call 57; refine (kind_any k _ true K1.out).mono ?_; rintro e9 w9 ⟨rfl, hw⟩; obtain rfl := hw.symm; clear t1; have t2 : (0 : Nat) = 0 := rfl)
    | (have q0 := t0; refine box_lawC _ (hv k n c l e t) rfl ?_; intro w1 V1 B1 s1; have c0 := V1.cell 0 _ rfl; have c1 := V1.cell 1 _ rfl; have c2 := V1.cell 2 _ rfl; have HV : Hid (Vr w1 w.heap.size (hv k n c l e t)) := V1; clear V1 t0; have t1 : (0 : Nat) = 0 := rfl))
  go_loopw [26, 4] (fun i o wr => ((i = .int .i64 0 ∧ Own w.heap.size wr o (P 0)) ∨ (i = .int .i64 1 ∧ Own w.heap.size wr o (P 1)) ∨ (i = .int .i64 2 ∧ Own w.heap.size wr o (P 2)) ∨ (i = .int .i64 3 ∧ Own w.heap.size wr o (P 3)) ∨ (i = .int .i64 4 ∧ Own w.heap.size wr o (P 4)) ∨ (i = .int .i64 5 ∧ Own w.heap.size wr o (P 5)) ∨ (i = .int .i64 6 ∧ Own w.heap.size wr o (P 6)) ∨ (i = .int .i64 7 ∧ Own w.heap.size wr o (P 7))) ∧ Below w.heap.size w wr) (fun i _ _ => 7 - (intOf i).toNat)
  case atStart => exact ⟨.inl ⟨rfl, by rw [H0.out]; exact O3.out⟩, C3.out⟩
  case round =>
    clear O2 O3 C2 C3
    obtain ⟨hrel, b4⟩ := hrel
    have C4 : Hid (Below w.heap.size w wr) := b4
    have z4 := b4.size
    have TT : Hid (Tab wr) := HT.out.below b4
    clear b4
    obtain ⟨rfl, o4⟩ | ⟨rfl, o4⟩ | ⟨rfl, o4⟩ | ⟨rfl, o4⟩ | ⟨rfl, o4⟩ | ⟨rfl, o4⟩ | ⟨rfl, o4⟩ | ⟨rfl, o4⟩ := hrel
    · have hcell : wr.cell? ⟨0, 0, none⟩ = some (.int .i64 1) := TT.out 0 (by omega)
      have E1 : Hid (P 1 = P 0 ++ [k]) := HS.out 0 (by omega)
      have L1 : Hid ((P 0).length ≤ 80000) := HLN.out 0 (by omega)
      have LB : Hid (([k]).length ≤ 8) := by show _ ≤ _; simp
      have O4 : Hid (Own w.heap.size wr u4 (P 0)) := o4
      clear o4
      have u0 : (0 : Nat) = 0 := rfl
      go_wp2_with (first
        | (have q := u0; refine idx_law _ rfl (.tmp 25) (.tmp 26) 93 rfl _ _ (.int .u64 k) rfl rfl (by kernel_rfl) ?_; clear u0)
        | (at_builtin; refine pushs_law _ rfl (.tmp 30) (.tmp 35) rfl w.heap.size z5 _ _ (P 0) ([k]) rfl rfl O5.out Y5.out (by have := L1.out; have := LB.out; omega) ?_; intro v6 w6 o6 B6; have O6 : Hid (Own w.heap.size w6 v6 (P 0 ++ [k])) := o6; clear o6)
        | (go_at_call 31; refine (SK.out _ HP.out.1 _).mono ?_; rintro e9 w5 ⟨v5, rfl, y5, B5⟩; have Y5 : Hid (Byt w5 v5 ([k])) := y5; have O5 : Hid (Own w.heap.size w5 u4 (P 0)) := own_low O4.out B5; have C5 : Hid (Below w.heap.size w w5) := C4.out.trans (B5.mono z4); have z5 := C5.out.size; clear y5 B5))
      go_roundw
      case rel => exact ⟨.inr (.inl ⟨rfl, by rw [E1.out]; exact O6.out⟩), C5.out.trans B6⟩
      case measure => simp [intOf]
    · have hcell : wr.cell? ⟨0, 1, none⟩ = some (.int .i64 1) := TT.out 1 (by omega)
      have E1 : Hid (P 2 = P 1 ++ [n]) := HS.out 1 (by omega)
      have L1 : Hid ((P 1).length ≤ 80000) := HLN.out 1 (by omega)
      have LB : Hid (([n]).length ≤ 8) := by show _ ≤ _; simp
      have O4 : Hid (Own w.heap.size wr u4 (P 1)) := o4
      clear o4
      have u0 : (0 : Nat) = 0 := rfl
      go_wp2_with (first
        | (have q := u0; refine idx_law _ rfl (.tmp 25) (.tmp 26) 93 rfl _ _ (.int .u64 n) rfl rfl (by kernel_rfl) ?_; clear u0)
        | (at_builtin; refine pushs_law _ rfl (.tmp 30) (.tmp 35) rfl w.heap.size z5 _ _ (P 1) ([n]) rfl rfl O5.out Y5.out (by have := L1.out; have := LB.out; omega) ?_; intro v6 w6 o6 B6; have O6 : Hid (Own w.heap.size w6 v6 (P 1 ++ [n])) := o6; clear o6)
        | (go_at_call 31; refine (SK.out _ HP.out.2.1 _).mono ?_; rintro e9 w5 ⟨v5, rfl, y5, B5⟩; have Y5 : Hid (Byt w5 v5 ([n])) := y5; have O5 : Hid (Own w.heap.size w5 u4 (P 1)) := own_low O4.out B5; have C5 : Hid (Below w.heap.size w w5) := C4.out.trans (B5.mono z4); have z5 := C5.out.size; clear y5 B5))
      go_roundw
      case rel => exact ⟨.inr (.inr (.inl ⟨rfl, by rw [E1.out]; exact O6.out⟩)), C5.out.trans B6⟩
      case measure => simp [intOf]
    · have hcell : wr.cell? ⟨0, 2, none⟩ = some (.int .i64 1) := TT.out 2 (by omega)
      have E1 : Hid (P 3 = P 2 ++ [c]) := HS.out 2 (by omega)
      have L1 : Hid ((P 2).length ≤ 80000) := HLN.out 2 (by omega)
      have LB : Hid (([c]).length ≤ 8) := by show _ ≤ _; simp
      have O4 : Hid (Own w.heap.size wr u4 (P 2)) := o4
      clear o4
      have u0 : (0 : Nat) = 0 := rfl
      go_wp2_with (first
        | (have q := u0; refine idx_law _ rfl (.tmp 25) (.tmp 26) 93 rfl _ _ (.int .u64 c) rfl rfl (by kernel_rfl) ?_; clear u0)
        | (at_builtin; refine pushs_law _ rfl (.tmp 30) (.tmp 35) rfl w.heap.size z5 _ _ (P 2) ([c]) rfl rfl O5.out Y5.out (by have := L1.out; have := LB.out; omega) ?_; intro v6 w6 o6 B6; have O6 : Hid (Own w.heap.size w6 v6 (P 2 ++ [c])) := o6; clear o6)
        | (go_at_call 31; refine (SK.out _ HP.out.2.2 _).mono ?_; rintro e9 w5 ⟨v5, rfl, y5, B5⟩; have Y5 : Hid (Byt w5 v5 ([c])) := y5; have O5 : Hid (Own w.heap.size w5 u4 (P 2)) := own_low O4.out B5; have C5 : Hid (Below w.heap.size w w5) := C4.out.trans (B5.mono z4); have z5 := C5.out.size; clear y5 B5))
      go_roundw
      case rel => exact ⟨.inr (.inr (.inr (.inl ⟨rfl, by rw [E1.out]; exact O6.out⟩))), C5.out.trans B6⟩
      case measure => simp [intOf]
    · have hcell : wr.cell? ⟨0, 3, none⟩ = some (.int .i64 1) := TT.out 3 (by omega)
      have E1 : Hid (P 4 = P 3 ++ [0]) := HS.out 3 (by omega)
      have L1 : Hid ((P 3).length ≤ 80000) := HLN.out 3 (by omega)
      have LB : Hid (([0]).length ≤ 8) := by show _ ≤ _; simp
      have O4 : Hid (Own w.heap.size wr u4 (P 3)) := o4
      clear o4
      have u0 : (0 : Nat) = 0 := rfl
      go_wp2_with (first
        | (have q := u0; refine idx_law _ rfl (.tmp 25) (.tmp 26) 93 rfl _ _ (.int .u64 0) rfl rfl (by kernel_rfl) ?_; clear u0)
        | (at_builtin; refine pushs_law _ rfl (.tmp 30) (.tmp 35) rfl w.heap.size z5 _ _ (P 3) ([0]) rfl rfl O5.out Y5.out (by have := L1.out; have := LB.out; omega) ?_; intro v6 w6 o6 B6; have O6 : Hid (Own w.heap.size w6 v6 (P 3 ++ [0])) := o6; clear o6)
        | (go_at_call 31; refine (SK.out 0 (by omega) _).mono ?_; rintro e9 w5 ⟨v5, rfl, y5, B5⟩; have Y5 : Hid (Byt w5 v5 ([0])) := y5; have O5 : Hid (Own w.heap.size w5 u4 (P 3)) := own_low O4.out B5; have C5 : Hid (Below w.heap.size w w5) := C4.out.trans (B5.mono z4); have z5 := C5.out.size; clear y5 B5))
      go_roundw
      case rel => exact ⟨.inr (.inr (.inr (.inr (.inl ⟨rfl, by rw [E1.out]; exact O6.out⟩)))), C5.out.trans B6⟩
      case measure => simp [intOf]
    · have hcell : wr.cell? ⟨0, 4, none⟩ = some (.int .i64 4) := TT.out 4 (by omega)
      have E1 : Hid (P 5 = P 4 ++ be l 4) := HS.out 4 (by omega)
      have L1 : Hid ((P 4).length ≤ 80000) := HLN.out 4 (by omega)
      have LB : Hid ((be l 4).length ≤ 8) := by show _ ≤ _; simp [be_len]
      have O4 : Hid (Own w.heap.size wr u4 (P 4)) := o4
      clear o4
      have u0 : (0 : Nat) = 0 := rfl
      go_wp2_with (first
        | (have q := u0; refine idx_law _ rfl (.tmp 25) (.tmp 26) 93 rfl _ _ (.int .u64 l) rfl rfl (by kernel_rfl) ?_; clear u0)
        | (at_builtin; refine pushs_law _ rfl (.tmp 30) (.tmp 35) rfl w.heap.size z5 _ _ (P 4) (be l 4) rfl rfl O5.out Y5.out (by have := L1.out; have := LB.out; omega) ?_; intro v6 w6 o6 B6; have O6 : Hid (Own w.heap.size w6 v6 (P 4 ++ be l 4)) := o6; clear o6)
        | (go_at_call 31; refine (S4.out _).mono ?_; rintro e9 w5 ⟨v5, rfl, y5, B5⟩; have Y5 : Hid (Byt w5 v5 (be l 4)) := y5; have O5 : Hid (Own w.heap.size w5 u4 (P 4)) := own_low O4.out B5; have C5 : Hid (Below w.heap.size w w5) := C4.out.trans (B5.mono z4); have z5 := C5.out.size; clear y5 B5))
      go_roundw
      case rel => exact ⟨.inr (.inr (.inr (.inr (.inr (.inl ⟨rfl, by rw [E1.out]; exact O6.out⟩))))), C5.out.trans B6⟩
      case measure => simp [intOf]
    · have hcell : wr.cell? ⟨0, 5, none⟩ = some (.int .i64 8) := TT.out 5 (by omega)
      have E1 : Hid (P 6 = P 5 ++ be e 8) := HS.out 5 (by omega)
      have L1 : Hid ((P 5).length ≤ 80000) := HLN.out 5 (by omega)
      have LB : Hid ((be e 8).length ≤ 8) := by show _ ≤ _; simp [be_len]
      have O4 : Hid (Own w.heap.size wr u4 (P 5)) := o4
      clear o4
      have u0 : (0 : Nat) = 0 := rfl
      go_wp2_with (first
        | (have q := u0; refine idx_law _ rfl (.tmp 25) (.tmp 26) 93 rfl _ _ (.int .u64 e) rfl rfl (by kernel_rfl) ?_; clear u0)
        | (at_builtin; refine pushs_law _ rfl (.tmp 30) (.tmp 35) rfl w.heap.size z5 _ _ (P 5) (be e 8) rfl rfl O5.out Y5.out (by have := L1.out; have := LB.out; omega) ?_; intro v6 w6 o6 B6; have O6 : Hid (Own w.heap.size w6 v6 (P 5 ++ be e 8)) := o6; clear o6)
        | (go_at_call 31; refine (S8.out _ H8.out.1 _).mono ?_; rintro e9 w5 ⟨v5, rfl, y5, B5⟩; have Y5 : Hid (Byt w5 v5 (be e 8)) := y5; have O5 : Hid (Own w.heap.size w5 u4 (P 5)) := own_low O4.out B5; have C5 : Hid (Below w.heap.size w w5) := C4.out.trans (B5.mono z4); have z5 := C5.out.size; clear y5 B5))
      go_roundw
      case rel => exact ⟨.inr (.inr (.inr (.inr (.inr (.inr (.inl ⟨rfl, by rw [E1.out]; exact O6.out⟩)))))), C5.out.trans B6⟩
      case measure => simp [intOf]
    · have hcell : wr.cell? ⟨0, 6, none⟩ = some (.int .i64 8) := TT.out 6 (by omega)
      have E1 : Hid (P 7 = P 6 ++ be t 8) := HS.out 6 (by omega)
      have L1 : Hid ((P 6).length ≤ 80000) := HLN.out 6 (by omega)
      have LB : Hid ((be t 8).length ≤ 8) := by show _ ≤ _; simp [be_len]
      have O4 : Hid (Own w.heap.size wr u4 (P 6)) := o4
      clear o4
      have u0 : (0 : Nat) = 0 := rfl
      go_wp2_with (first
        | (have q := u0; refine idx_law _ rfl (.tmp 25) (.tmp 26) 93 rfl _ _ (.int .u64 t) rfl rfl (by kernel_rfl) ?_; clear u0)
        | (at_builtin; refine pushs_law _ rfl (.tmp 30) (.tmp 35) rfl w.heap.size z5 _ _ (P 6) (be t 8) rfl rfl O5.out Y5.out (by have := L1.out; have := LB.out; omega) ?_; intro v6 w6 o6 B6; have O6 : Hid (Own w.heap.size w6 v6 (P 6 ++ be t 8)) := o6; clear o6)
        | (go_at_call 31; refine (S8.out _ H8.out.2 _).mono ?_; rintro e9 w5 ⟨v5, rfl, y5, B5⟩; have Y5 : Hid (Byt w5 v5 (be t 8)) := y5; have O5 : Hid (Own w.heap.size w5 u4 (P 6)) := own_low O4.out B5; have C5 : Hid (Below w.heap.size w w5) := C4.out.trans (B5.mono z4); have z5 := C5.out.size; clear y5 B5))
      go_roundw
      case rel => exact ⟨.inr (.inr (.inr (.inr (.inr (.inr (.inr (⟨rfl, by rw [E1.out]; exact O6.out⟩))))))), C5.out.trans B6⟩
      case measure => simp [intOf]
    · have O4 : Hid (Own w.heap.size wr u4 (P 7)) := o4
      rw [HE.out] at O4
      clear o4
      go_wp2
      go_ret2
      exact ⟨_, rfl, O4.out, C4.out⟩
end Go.Proofs.YtbkaecjkgjkheaaGreatDoor.he

/- What head's numbersIn answers. No claim of its own. -/
namespace Go.Proofs.YtbkaecjkgjkheaaGreatDoor.he
open Go.RowKit Go.Proofs.YtbkaecjkgjkheaaGreatDoor.fa
set_option maxRecDepth 20000

/-- a struct, or an array, is read -/
theorem load_lawC {ops : Array Oper} {rest : List Oper} {a : Act} {Q : Exit → Act → World → Prop} {d : Option Tmp} {x : Operand} {t ty : TypeId} {pos : String} {af : Array Edge} {gd : Option (Nat × Bool)} (w : World) (hw : Region.wanted ⟨d, Op.load t x, ty, pos, af, gd⟩ (yielded ops a.tmps) = true) (cs : List Value) (b p : Nat) (hx : a.eval x = .pointer (some ⟨b, p, none⟩)) (h : w.rangeAt b p cs) (ht : Rowy t cs.length)
    (hK : wpList Tryz.prog ops Q rest (a.put d (.agg cs.toArray)) w) : wpList Tryz.prog ops Q (⟨d, Op.load t x, ty, pos, af, gd⟩ :: rest) a w := by
  refine wpList_step fun K hK' => ?_
  rw [if_pos hw]
  unfold Oper.wp execOp
  simp only [hx, Sem.run_bind, Result.andThen_ok, load_cells ht h]
  exact hK' _ _ hK
theorem num_one (xs : List Int) (i : Nat) (h : i < xs.length) (ha : AllB xs) : num (last8 (sub xs i (i + 1))) = gb xs i := by
  have l := sub_len xs i (i + 1) (by omega)
  have g := sub_gb xs i (i + 1) 0 (by omega)
  have b := ha i
  generalize sub xs i (i + 1) = ys at *
  match ys, l with
  | [y], _ =>
    have : y = gb xs i := g
    subst this
    show (0 * 256) % 18446744073709551616 + gb xs i = gb xs i
    omega
  | [], l => simp at l
  | _ :: _ :: _, l => simp at l
end Go.Proofs.YtbkaecjkgjkheaaGreatDoor.he

/- One law a kind of operation, in a region that draws its order: slices of bytes, calls, structs; joining two or four lists. No claim of its own. -/
namespace Go.Proofs.YtbkaecjkgjkheaaGreatDoor.he
open Go.RowKit Go.Proofs.YtbkaecjkgjkheaaGreatDoor.fa
set_option maxRecDepth 20000

/-- 'v[l:h]' of bytes, as a value -/
def sl : Value → Nat → Nat → Value
  | .slice ao _ cap, l, h => sliced ao l h cap 1
  | _, _, _ => undef
theorem sl_byt {w : World} {v : Value} {xs : List Int} (hb : Byt w v xs) (l h : Nat) (hl : l ≤ h) (hh : h ≤ xs.length) : Byt w (sl v l h) ((xs.take h).drop l) := by
  obtain ⟨ao, cap, rfl, hc, hb'⟩ := byt_cut hb l h hl hh
  exact hb'
theorem sl_to {w : World} {v : Value} {xs : List Int} (hb : Byt w v xs) (h : Nat) (hh : h ≤ xs.length) : Byt w (sl v 0 h) (xs.take h) := by
  have := sl_byt hb 0 h (Nat.zero_le _) hh
  rwa [List.drop_zero] at this
theorem sl_from {w : World} {v : Value} {xs : List Int} (hb : Byt w v xs) (l : Nat) (hl : l ≤ xs.length) : Byt w (sl v l xs.length) (xs.drop l) := by
  have := sl_byt hb l xs.length hl (Nat.le_refl _)
  rwa [List.take_length] at this

theorem sl_sub {w : World} {v : Value} {xs : List Int} (hb : Byt w v xs) (l h : Nat) (hl : l ≤ h) (hh : h ≤ xs.length) : Byt w (sl v l h) (sub xs l h) := sl_byt hb l h hl hh
theorem byt_form {w : World} {v : Value} {xs : List Int} {n : Nat} (h : Byt w v xs) (hn : xs.length = n) : ∃ ao cap, v = .slice ao n cap := by
  obtain ⟨ao, cap, e, -⟩ := h
  rw [hn] at e
  exact ⟨ao, cap, e⟩
theorem byt_drawn {w : World} {v : Value} {xs : List Int} (h : Byt w v xs) (m : Nat) : Byt (w.drewN m) v xs := h
theorem below_drawn {B : Nat} {w w' : World} (h : Below B w w') (m : Nat) : Below B w (w'.drewN m) := ⟨h.os, h.tape, h.output, h.size, fun k hk => h.block k hk⟩

section
variable {ev : Operand → Value} {o : Oper}
theorem exec_to (s x : Operand) (hop : o.op = Op.slice 22 s none (some x) none) (v : Value) (xs : List Int) (w0 : World) (hb : Byt w0 v xs) (h : Nat) (hs : ev s = v) (hx : ev x = .int .i64 (h : Int)) (hh : h ≤ xs.length) (w : World) : (execOp ev o).run Tryz.prog w = .ok (.value (sl v 0 h)) w := by
  obtain ⟨ao, cap, rfl, hc, -⟩ := byt_cut hb 0 h (Nat.zero_le _) hh
  have hrun := run_slice_h (P := Tryz.prog) w 22 ao xs.length cap und_bytes .i64 (h : Int) (by omega) (by omega)
  rw [elem_bytes, run_size_u8] at hrun
  simp [execOp, hop, hs, hx, run_sliceAt_slice w 22 _ _ _ _ und_bytes, hrun, Result.andThen, sl]
theorem exec_part (s x y : Operand) (hop : o.op = Op.slice 22 s (some x) (some y) none) (v : Value) (xs : List Int) (w0 : World) (hb : Byt w0 v xs) (l h : Nat) (hs : ev s = v) (hx : ev x = .int .i64 (l : Int)) (hy : ev y = .int .i64 (h : Int)) (hl : l ≤ h) (hh : h ≤ xs.length) (w : World) : (execOp ev o).run Tryz.prog w = .ok (.value (sl v l h)) w := by
  obtain ⟨ao, cap, rfl, hc, -⟩ := byt_cut hb l h hl hh
  have hrun := run_slice_lh (P := Tryz.prog) w 22 ao xs.length cap und_bytes .i64 .i64 (l : Int) (h : Int) (by omega) (by omega) (by omega)
  rw [elem_bytes, run_size_u8] at hrun
  simp [execOp, hop, hs, hx, hy, run_sliceAt_slice w 22 _ _ _ _ und_bytes, hrun, Result.andThen, sl]
theorem exec_from (s x : Operand) (hop : o.op = Op.slice 22 s (some x) none none) (v : Value) (xs : List Int) (w0 : World) (hb : Byt w0 v xs) (l n : Nat) (hs : ev s = v) (hx : ev x = .int .i64 (l : Int)) (hn : xs.length = n) (hl : l ≤ n) (w : World) : (execOp ev o).run Tryz.prog w = .ok (.value (sl v l n)) w := by
  subst hn
  obtain ⟨ao, cap, rfl, hc, -⟩ := byt_cut hb l xs.length hl (Nat.le_refl _)
  have hrun := run_slice_l (P := Tryz.prog) w 22 ao xs.length cap und_bytes .i64 (l : Int) (by omega) (by omega)
  rw [elem_bytes, run_size_u8] at hrun
  simp [execOp, hop, hs, hx, run_sliceAt_slice w 22 _ _ _ _ und_bytes, hrun, Result.andThen, sl]
theorem exec_loadN (t : TypeId) (x : Operand) (hop : o.op = Op.load t x) (p : Value) (hx : ev x = p) (v : Value) (w : World) (hr : (Instr.loadAt t p).run Tryz.prog w = .ok v w) : (execOp ev o).run Tryz.prog w = .ok (.value v) w := by
  unfold execOp
  simp only [hop, hx, Sem.run_bind, Result.andThen_ok, hr]
  rfl
end

section
variable {ops : Array Oper} {o : Oper} {a : Act} {Q : Exit → Act → World → Prop} {K : Act → World → Prop} {E : Prop}
/-- a call, guarded or not -/
theorem step_callW (w : World) (hw : Region.wanted o (yielded ops a.tmps) = true) (d : Option Tmp) (hd : o.dst = d) (f : FuncId) (args : Array Operand) (ats : Array TypeId) (hop : o.op = .call { callee := .value (.func f), args := args, argTypes := ats })
    (hcf : ∀ (q : Array Value) (w : World), (callFunc f q).run Tryz.prog w = .ok (.enter f q) w) (vs : Array Value) (hx : args.map a.eval = vs) (R : Value → World → Prop) (hc : Calls Tryz.prog f vs w fun e w' => ∃ v, e = .returned v ∧ R v w') (hK : ∀ v w', R v w' → K (a.put d v) w') : if Region.wanted o (yielded ops a.tmps) = true then Oper.wp Tryz.prog o a w K Q else E := by
  rw [if_pos hw]
  subst hd
  subst hx
  unfold Oper.wp
  simp only [execOp, hop]
  go_simp
  refine hc.mono ?_
  rintro e w' ⟨v, rfl, hr⟩
  exact hK v w' hr
/-- '[]byte{}' -/
theorem step_nil (w : World) (hg : o.guard = none) (d : Option Tmp) (hd : o.dst = d) (hop : o.op = Op.buildSlice 22 0 #[])
    (hK : ∀ v w', Own w.heap.size w' v [] → Below w.heap.size w w' → K (a.put d v) w') : if Region.wanted o (yielded ops a.tmps) = true then Oper.wp Tryz.prog o a w K Q else E := by
  have hw : Region.wanted o (yielded ops a.tmps) = true := by simp [Region.wanted, hg]
  rw [if_pos hw]
  subst hd
  have hrun : (Instr.buildSlice 22 0 #[]).run Tryz.prog w = .ok (.slice (some ⟨w.heap.size, 0, none⟩) 0 0) (w.alloc (.cells #[] 5)) := by kernel_rfl
  unfold Oper.wp execOp
  simp only [hop, List.map_toArray, List.map_nil, Sem.run_bind, Sem.run_pure, Result.andThen_ok, hrun]
  exact hK _ _ (Own.empty w (Nat.le_refl _)) ((Below.refl _ _).alloc (Nat.le_refl _) _)
/-- 'append(out, s...)' of bytes, out of the call's own -/
theorem step_pushs (w : World) (hg : o.guard = none) (d : Option Tmp) (hd : o.dst = d) (s x : Operand) (hop : o.op = .call { callee := .builtin .append, args := #[s, x], argTypes := #[22, 22] })
    (B : Nat) (hB : B ≤ w.heap.size) (v vy : Value) (xs ys : List Int) (hs : a.eval s = v) (hx : a.eval x = vy) (hown : Own B w v xs) (hy : Byt w vy ys) (hn : xs.length ≤ 1099511627776) (hm : ys.length ≤ 1099511627776)
    (hK : ∀ v' w', Own B w' v' (xs ++ ys) → Below B w w' → K (a.put d v') w') : if Region.wanted o (yielded ops a.tmps) = true then Oper.wp Tryz.prog o a w K Q else E := by
  have hw : Region.wanted o (yielded ops a.tmps) = true := by simp [Region.wanted, hg]
  rw [if_pos hw]
  subst hd
  obtain ⟨i0, hi, hz0, hz1, hz2⟩ := info_parts info_u8
  obtain ⟨ao, cap, rfl, h1, h2, h3, h4, h5⟩ := hy
  cases ao with
  | none =>
    have hc := h4 rfl
    subst hc
    have : ys = [] := List.eq_nil_of_length_eq_zero (by omega)
    subst this
    have hrun := run_append_owned_none (P := Tryz.prog) (w := w) B 22 o.type 5 i0 1 Tryz.underlying22 hi v xs.length _ hown
    have hx' : a.eval x = .slice none 0 0 := hx
    unfold Oper.wp
    simp [execOp, hop, resolve, invoke, builtin, hs, hx', hrun, Result.andThen]
    refine hK v w ?_ (Below.refl _ _)
    rwa [List.append_nil]
  | some ad =>
    refine wp_append_own _ s x 22 hop B 5 i0 (.int .u8 0) 1 1 Tryz.underlying22 hi hz0 hz1 hz2 rfl (by decide) v xs.length _ hs hown ad ys.length cap (ys.map (Value.int .u8)) hx (by simp) ?_ ?_ (by simp only [maxLen]; omega) (by omega) hB fun v' w' h1 h2 _ => ?_
    · intro j u hj
      have hjl : j < ys.length := by have := (List.getElem?_eq_some_iff.1 hj).1; simpa using this
      obtain ⟨b, off, e, hc⟩ := h5 (by omega)
      cases e
      rw [Addr.add_mid, hc j hjl, ← hj]
      simp [gb, List.getD, hjl]
    · intro u hu
      simp only [List.mem_map] at hu
      obtain ⟨y, _, rfl⟩ := hu
      rfl
    · refine hK v' w' ?_ ?_
      · show w'.ownsRow B 5 1 v' (xs ++ ys).length ((xs ++ ys).map (Value.int .u8))
        simpa using h1
      · exact (Below.refl B w).grown h2 hB fun k hk => (World.ownsRow.lt hown k hk).1
/-- a variable for a struct -/
theorem step_newC (w : World) (hg : o.guard = none) (d : Option Tmp) (hd : o.dst = d) (t : TypeId) (hop : o.op = Op.alloc t) (cs : List Value) (hz : (Tryz.prog.info? t).map (fun i => (i.zero, i.size)) = some (some (.agg cs.toArray), cs.length))
    (hK : ∀ w', Vr w' w.heap.size cs → Below w.heap.size w w' → w.heap.size < w'.heap.size → K (a.put d (.pointer (some ⟨w.heap.size, 0, none⟩))) w') : if Region.wanted o (yielded ops a.tmps) = true then Oper.wp Tryz.prog o a w K Q else E := by
  have hw : Region.wanted o (yielded ops a.tmps) = true := by simp [Region.wanted, hg]
  rw [if_pos hw]
  subst hd
  have hz' := (zero_of_info hz).1
  unfold Oper.wp
  simp [execOp, hop, Instr.alloc, hz', newVar, newRow, Value.cells, Result.andThen]
  exact hK _ (Vr.new w t cs) ((Below.refl _ _).alloc (Nat.le_refl _) _) (by simp)
/-- a struct is written into its variable -/
theorem step_storeC (w : World) (hg : o.guard = none) (d : Option Tmp) (hd : o.dst = d) (x y : Operand) (t : TypeId) (hop : o.op = Op.store t x y) (c : Nat) (cs0 cs : List Value) (hx : a.eval x = .pointer (some ⟨c, 0, none⟩)) (hy : a.eval y = .agg cs.toArray) (hV : Vr w c cs0) (hl : cs0.length = cs.length) (hs : (Tryz.prog.info? t).map (·.size) = some cs.length) (h1 : ∀ v ∈ cs, v.oneCell' = true)
    (hK : ∀ w', Vr w' c cs → Below c w w' → K (a.put d undef) w') : if Region.wanted o (yielded ops a.tmps) = true then Oper.wp Tryz.prog o a w K Q else E := by
  have hw : Region.wanted o (yielded ops a.tmps) = true := by simp [Region.wanted, hg]
  rw [if_pos hw]
  subst hd
  have ht : w.there c 0 cs.length := by rw [← hl]; exact hV.2
  refine wp_store_mid t x y hop c 0 cs.toArray hx hy (by simpa using ht) (by simpa using hs) (all_oneCell_toArray h1) ?_
  exact hK _ ⟨World.rangeAt_setCells_same w c 0 cs ht, World.there_setCells ht c 0 _⟩ (below_cells _ (Nat.le_refl _) _ _ (Below.refl _ _))
end

theorem cell_of4 (w : World) (a b c d : Value) (t : TypeId) (k : Nat) (v : Value) (h : ([a, b, c, d] : List Value)[k]? = some v) : (w.alloc (.cells #[a, b, c, d] t)).cell? ⟨w.heap.size, k, none⟩ = some v := by
  rw [cell_of_row (w.alloc (.cells #[a, b, c, d] t)) w.heap.size k _ t (0, 0) (heap_alloc_last w _)]
  simpa using h
theorem cell_of2 (w : World) (a b : Value) (t : TypeId) (k : Nat) (v : Value) (h : ([a, b] : List Value)[k]? = some v) : (w.alloc (.cells #[a, b] t)).cell? ⟨w.heap.size, k, none⟩ = some v := by
  rw [cell_of_row (w.alloc (.cells #[a, b] t)) w.heap.size k _ t (0, 0) (heap_alloc_last w _)]
  simpa using h
/-- four lists, one behind the other -/
theorem cat4_any (w : World) (a b c d : Value) (x y z u : List Int) (ha : Byt w a x) (hb : Byt w b y) (hc : Byt w c z) (hd : Byt w d u) (l1 : x.length ≤ 10000) (l2 : y.length ≤ 10000) (l3 : z.length ≤ 10000) (l4 : u.length ≤ 10000) (hp : 0 < x.length) :
    Calls Tryz.prog 30 #[.slice (some ⟨w.heap.size, 0, none⟩) 4 4] (w.alloc (.cells #[a, b, c, d] 22)) fun e w' => ∃ r, e = .returned r ∧ Own w.heap.size w' r (x ++ (y ++ (z ++ u))) ∧ Below w.heap.size w w' := by
  have B0 : Below w.heap.size w (w.alloc (.cells #[a, b, c, d] 22)) := (Below.refl _ _).alloc (Nat.le_refl _) _
  have e : cats [x, y, z, u] 4 = x ++ (y ++ (z ++ u)) := by simp [cats]
  have := concat_any w.heap.size 4 (fun k => ([a, b, c, d] : List Value).getD k undef) [x, y, z, u] _ rfl (by omega) (fun k hk => by
    match k, hk with
    | 0, _ => exact ha.below B0
    | 1, _ => exact hb.below B0
    | 2, _ => exact hc.below B0
    | 3, _ => exact hd.below B0) (fun k hk => by
    have hk : k < 4 := hk
    match k, hk with
    | 0, _ => exact l1
    | 1, _ => exact l2
    | 2, _ => exact l3
    | 3, _ => exact l4) (by rw [e]; simp; omega) (fun k hk => cell_of4 w a b c d 22 k _ (by
    match k, hk with
    | 0, _ => rfl
    | 1, _ => rfl
    | 2, _ => rfl
    | 3, _ => rfl))
  rw [e] at this
  refine this.mono ?_
  rintro q w' ⟨r, rfl, o, B⟩
  exact ⟨r, rfl, own_less o B0.size, B0.trans (B.mono B0.size)⟩
/-- two lists, one behind the other -/
theorem cat2_any (w : World) (a b : Value) (x y : List Int) (ha : Byt w a x) (hb : Byt w b y) (l1 : x.length ≤ 10000) (l2 : y.length ≤ 10000) (hp : 0 < x.length) :
    Calls Tryz.prog 30 #[.slice (some ⟨w.heap.size, 0, none⟩) 2 2] (w.alloc (.cells #[a, b] 22)) fun e w' => ∃ r, e = .returned r ∧ Own w.heap.size w' r (x ++ y) ∧ Below w.heap.size w w' := by
  have B0 : Below w.heap.size w (w.alloc (.cells #[a, b] 22)) := (Below.refl _ _).alloc (Nat.le_refl _) _
  have e : cats [x, y] 2 = x ++ y := by simp [cats]
  have := concat_any w.heap.size 2 (fun k => ([a, b] : List Value).getD k undef) [x, y] _ rfl (by omega) (fun k hk => by
    match k, hk with
    | 0, _ => exact ha.below B0
    | 1, _ => exact hb.below B0) (fun k hk => by
    have hk : k < 2 := hk
    match k, hk with
    | 0, _ => exact l1
    | 1, _ => exact l2) (by rw [e]; simp; omega) (fun k hk => cell_of2 w a b 22 k _ (by
    match k, hk with
    | 0, _ => rfl
    | 1, _ => rfl))
  rw [e] at this
  refine this.mono ?_
  rintro q w' ⟨r, rfl, o, B⟩
  exact ⟨r, rfl, own_less o B0.size, B0.trans (B.mono B0.size)⟩
end Go.Proofs.YtbkaecjkgjkheaaGreatDoor.he

/- What head's isWhole, Committed, Mark and End, and the reference's Committed answer. No claim of its own. -/
namespace Go.Proofs.YtbkaecjkgjkheaaGreatDoor.he
open Go.RowKit Go.Proofs.YtbkaecjkgjkheaaGreatDoor.fa
set_option maxRecDepth 20000

/-- the tag that an end bears -/
def tgo (tag : List Int) : List Int := if tag.length = 0 then List.replicate 32 255 else tag
theorem tgo_len {tag : List Int} (h : tag.length = 0 ∨ tag.length = 32) : (tgo tag).length = 32 := by
  unfold tgo
  split
  · simp
  · omega
theorem tgo_all {tag : List Int} (h : AllB tag) : AllB (tgo tag) := by
  unfold tgo
  split
  · exact allB_replicate 255 32 (by omega)
  · exact h
end Go.Proofs.YtbkaecjkgjkheaaGreatDoor.he

/- What head's Read answers. No claim of its own. -/
namespace Go.Proofs.YtbkaecjkgjkheaaGreatDoor.he
open Go.RowKit Go.Proofs.YtbkaecjkgjkheaaGreatDoor.fa
set_option maxRecDepth 20000
end Go.Proofs.YtbkaecjkgjkheaaGreatDoor.he

/- What an argument that is a head holds; what the row's list of variables gives. No claim of its own. -/
namespace Go.Proofs.YtbkaecjkgjkheaaGreatDoor.he
open Go.ChangeShapes Go.WideShapes Go.ChangeAt Go.RowKit Go.Proofs.YtbkaecjkgjkheaaGreatDoor.fa
set_option maxRecDepth 20000

theorem own_cell {B : Nat} {w : World} {v : Value} {xs : List Int} {n : Nat} (h : Own B w v xs) (hl : xs.length = n) (hp : 0 < n) : ∃ g cap, v = .slice (some ⟨g, 0, none⟩) n cap ∧ n ≤ cap ∧ cap ≤ 9223372036854775807 ∧ ∀ i, i < n → w.cell? ⟨g, i, none⟩ = some (.int .u8 (gb xs i)) := by
  subst hl
  rcases h.2 with ⟨_, hn⟩ | ⟨g, cap, cur, rfl, hg, hh, hc, hm, hs, ht⟩
  · omega
  refine ⟨g, cap, rfl, hc, by simpa [maxLen] using hm, fun i hi => ?_⟩
  obtain ⟨g', cap', e, oc⟩ := own_row h hp
  cases e
  exact oc.cell hi

/-- what the row's list of variables gives: the table of sizes -/
theorem gTab : Tryz.prog.globalNamed "nepenthe/head.sizes" = some 0 := by kernel_rfl
theorem gTabType : (Tryz.prog.globals[0]?).map (·.type) = some 95 := by kernel_rfl
theorem cells_arr7i : Tryz.prog.cellsOf 95 = 7 := by kernel_rfl
theorem cells_int : Tryz.prog.cellsOf 3 = 1 := by kernel_rfl
theorem cells_u32 : Tryz.prog.cellsOf 23 = 1 := by kernel_rfl
theorem cells_u64 : Tryz.prog.cellsOf 24 = 1 := by kernel_rfl
theorem cells_head : Tryz.prog.cellsOf 26 = 6 := by kernel_rfl
theorem table {W : World} (h : laidMetH Tryz.prog [("nepenthe/head.sizes", Rows.laid_nepenthe_head_sizes)] W) : Tab W := by
  have t := Lib.tabIs_of_head (rest := []) (zs := [1, 1, 1, 1, 4, 8, 8]) (k := .i64) gTab gTabType Tryz.underlying95 Tryz.underlying3 cells_int cells_arr7i h
  intro i hi
  have := t.cell gTab i hi
  rw [this]
  rfl

/-- one cell that is read as a number -/
theorem num_cell {H : Type} {enc : TypeId × Value → H} {W : World} {fuel : Nat} {c : Value} {x : DataW H × List MemPlace} {t : TypeId} {k : IntKind} (ht : Tryz.prog.underlying t = some (.int k))
    (hf : DataW.trod enc Tryz.prog W 0 (fun _ => true) true fuel t [c] = some x) : ∃ n, c = .int k n ∧ (Lit.int k n).wf = true := by
  obtain ⟨y, hy, -, hw⟩ := DataW.trod_int ht hf
  exact ⟨y, by simpa using hy, hw⟩
/-- the bounds of a head's numbers -/
def Hb (l e t : Int) : Prop := (0 ≤ l ∧ l ≤ 4294967295) ∧ (0 ≤ e ∧ e ≤ 18446744073709551615) ∧ 0 ≤ t ∧ t ≤ 18446744073709551615
/-- an argument that is a head -/
theorem head_open {H : Type} {enc : TypeId × Value → H} {W : World} {base : Nat} {v : Value} {d : DataW H} {ps : List MemPlace}
    (ok : Value.okWide Tryz.prog W .any base 26 v) (h : DataW.Trod enc Tryz.prog W 0 (fun _ => true) true 26 v d ps) : ∃ k n c l e t, v = .agg (hv k n c l e t).toArray ∧ Hb l e t := by
  simp only [Value.okWide, Tryz.underlying26] at ok
  obtain ⟨cs, rfl, h2, _⟩ := ok
  rw [cells_head] at h2
  obtain ⟨l⟩ := cs
  obtain ⟨c0, c1, c2, c3, c4, c5, rfl⟩ : ∃ c0 c1 c2 c3 c4 c5, l = [c0, c1, c2, c3, c4, c5] := by
    match l, h2 with
    | [c0, c1, c2, c3, c4, c5], _ => exact ⟨c0, c1, c2, c3, c4, c5, rfl⟩
  obtain ⟨fuel, hf⟩ := h
  obtain ⟨xs, n, -, -, -, hlen, hall⟩ := DataW.trod_struct Tryz.underlying26 hf
  match xs, hlen with
  | [y0, y1, y2, y3, y4, y5], _ =>
    have a0 := hall 0 _ rfl
    have a1 := hall 1 _ rfl
    have a2 := hall 2 _ rfl
    have a3 := hall 3 _ rfl
    have a4 := hall 4 _ rfl
    have a5 := hall 5 _ rfl
    simp [cells_int, cells_u32, cells_u64, Value.cells] at a0 a1 a2 a3 a4 a5
    obtain ⟨n0, rfl, -⟩ := num_cell Tryz.underlying3 a0
    obtain ⟨n1, rfl, -⟩ := num_cell Tryz.underlying3 a1
    obtain ⟨n2, rfl, -⟩ := num_cell Tryz.underlying3 a2
    obtain ⟨n3, rfl, w3⟩ := num_cell Tryz.underlying23 a3
    obtain ⟨n4, rfl, w4⟩ := num_cell Tryz.underlying24 a4
    obtain ⟨n5, rfl, w5⟩ := num_cell Tryz.underlying24 a5
    exact ⟨n0, n1, n2, n3, n4, n5, rfl, bounds_u32 w3, bounds_u64 w4, bounds_u64 w5⟩
end Go.Proofs.YtbkaecjkgjkheaaGreatDoor.he

/- A namespace's keys as data; a tag of two parts; a head's tweak as a list. No claim of its own. -/
namespace Go.Proofs.YtbkaecjkgjkheaaGreatDoor.se
open Go.RowKit Go.Proofs.YtbkaecjkgjkheaaGreatDoor.fa Go.Proofs.YtbkaecjkgjkheaaGreatDoor.he
set_option maxRecDepth 20000

/-- a head's tweak -/
def twk (e t : Int) : List Int := (le e 8).reverse ++ (le t 8).reverse
theorem twk_len (e t : Int) : (twk e t).length = 16 := by simp [twk, le_len]
theorem sub_all {xs ys : List Int} (h : AllB xs) (hs : ∀ x ∈ ys, x ∈ xs) : AllB ys := allB_mem fun x hx => by
  obtain ⟨i, hi, rfl⟩ := mem_gb (hs x hx)
  exact h i
theorem rev_all {xs : List Int} (h : AllB xs) : AllB xs.reverse := sub_all h fun _ hx => List.mem_reverse.1 hx
theorem twk_all (e t : Int) : AllB (twk e t) := allB_app (rev_all (le_all e 8)) (rev_all (le_all t 8))
theorem twk_only {e t e' t' : Int} (h : Hb 0 e t) (h' : Hb 0 e' t') : twk e t = twk e' t' ↔ e = e' ∧ t = t' := by
  refine ⟨fun q => ?_, fun ⟨a, b⟩ => by rw [a, b]⟩
  have q1 := List.append_inj q (by simp [le_len])
  refine ⟨?_, ?_⟩
  · rw [← num_le e h.2.1, ← num_le e' h'.2.1, q1.1]
  · rw [← num_le t h.2.2, ← num_le t' h'.2.2, q1.2]
/-- the parts of a namespace's keys -/
def kd (ks : List Int) : List Int := ks.take 32
def kt (ks : List Int) : List Int := (ks.take 64).drop 32
def kg (ks : List Int) : List Int := ks.drop 64
theorem kd_len {ks : List Int} (h : ks.length = 96) : (kd ks).length = 32 := by simp [kd, h]
theorem kt_len {ks : List Int} (h : ks.length = 96) : (kt ks).length = 32 := by simp [kt, h]
theorem kg_len {ks : List Int} (h : ks.length = 96) : (kg ks).length = 32 := by simp [kg, h]
theorem kd_all {ks : List Int} (h : AllB ks) : AllB (kd ks) := sub_all h fun _ hx => (List.mem_of_mem_take hx)
theorem kt_all {ks : List Int} (h : AllB ks) : AllB (kt ks) := sub_all h fun _ hx => (List.mem_of_mem_take (List.mem_of_mem_drop hx))
theorem kg_all {ks : List Int} (h : AllB ks) : AllB (kg ks) := sub_all h fun _ hx => (List.mem_of_mem_drop hx)
/-- at p lie keys that New made of ks -/
def Kys (w : World) (p : Nat) (ks : List Int) : Prop :=
  ∃ c m, w.cell? ⟨p, 0, none⟩ = some (.pointer (some ⟨c, 0, none⟩)) ∧ w.cell? ⟨p, 1, none⟩ = some (.pointer (some ⟨m, 0, none⟩)) ∧ xt.Cip w c (kd ks) (kt ks) ∧ mc.KeyV w (.pointer (some ⟨m, 0, none⟩)) (mc.blk (kg ks))
theorem Kys.lt {w : World} {p : Nat} {ks : List Int} (h : Kys w p ks) : p < w.heap.size := by
  obtain ⟨c, m, h1, -⟩ := h
  exact World.block_lt_of_cell? w _ h1
theorem Kys.below {w w' : World} {p : Nat} {ks : List Int} (h : Kys w p ks) (hb : Below w.heap.size w w') : Kys w' p ks := by
  have hl := h.lt
  obtain ⟨c, m, h1, h2, h3, h4⟩ := h
  refine ⟨c, m, ?_, ?_, h3.below hb, h4.below hb⟩
  · rw [World.cell?_of_block (w := w) (w' := w') (a := ⟨p, 0, none⟩) (hb.block p hl)]; exact h1
  · rw [World.cell?_of_block (w := w) (w' := w') (a := ⟨p, 1, none⟩) (hb.block p hl)]; exact h2
/-- a slice of two slices of bytes -/
theorem bts_two {w : World} {u v : Value} {xs ys : List Int} (h : Byt w u xs) (h' : Byt w v ys) (hl : xs.length ≤ 1000000) (hl' : ys.length ≤ 1000000) : mc.Bts (w.alloc (.cells #[u, v] 22)) (.slice (some ⟨w.heap.size, 0, none⟩) 2 2) [xs, ys] := by
  have hb : Below w.heap.size w (w.alloc (.cells #[u, v] 22)) := (Below.refl _ _).alloc (Nat.le_refl _) _
  refine ⟨_, _, rfl, by simp, by simp, fun _ => ⟨w.heap.size, 0, rfl, fun r hr => ?_⟩, fun r => ?_⟩
  · have hr : r < 2 := hr
    match r, hr with
    | 0, _ => exact ⟨u, cell_of2 w u v 22 0 _ rfl, h.below hb⟩
    | 1, _ => exact ⟨v, cell_of2 w u v 22 1 _ rfl, h'.below hb⟩
  · match r with
    | 0 => simp [List.getD]; omega
    | 1 => simp [List.getD]; omega
    | r + 2 => simp [List.getD]
/-- the tag of two parts -/
theorem tag2_any (w : World) (kv : Value) (bl : List Int) (u v : Value) (xs ys : List Int) (hk : mc.KeyV w kv bl) (h : Byt w u xs) (h' : Byt w v ys) (hl : xs.length ≤ 10000) (hl' : ys.length ≤ 10000) :
    Calls Tryz.prog 21 #[kv, .slice (some ⟨w.heap.size, 0, none⟩) 2 2] (w.alloc (.cells #[u, v] 22)) fun e w' => ∃ ao cap, e = .returned (.slice ao 32 cap) ∧ Byt w' (.slice ao 32 cap) (mc.tagB bl (xs ++ ys)) ∧ Below w.heap.size w w' := by
  have hb : Below w.heap.size w (w.alloc (.cells #[u, v] 22)) := (Below.refl _ _).alloc (Nat.le_refl _) _
  have e : [xs, ys].flatten = xs ++ ys := by simp
  have z := mc.ktag_any _ kv bl _ [xs, ys] (hk.below hb) (bts_two h h' (by omega) (by omega)) (by rw [e, List.length_append]; omega)
  rw [e] at z
  refine z.mono ?_
  rintro x w' ⟨r, rfl, h1, h2⟩
  obtain ⟨ao, cap, rfl⟩ := byt_form h1 (n := 32) (mc.tagB_len _ _)
  exact ⟨ao, cap, rfl, h1, hb.trans (h2.mono hb.size)⟩
/-- does a tag fit two parts? -/
theorem fits2_any (w : World) (kv : Value) (bl : List Int) (tv u v : Value) (gs xs ys : List Int) (hk : mc.KeyV w kv bl) (hg : Byt w tv gs) (h : Byt w u xs) (h' : Byt w v ys) (hl : xs.length ≤ 10000) (hl' : ys.length ≤ 10000) :
    Calls Tryz.prog 28 #[kv, tv, .slice (some ⟨w.heap.size, 0, none⟩) 2 2] (w.alloc (.cells #[u, v] 22)) fun e w' => e = .returned (.bool (decide (gs = mc.tagB bl (xs ++ ys)))) ∧ Below w.heap.size w w' := by
  have hb : Below w.heap.size w (w.alloc (.cells #[u, v] 22)) := (Below.refl _ _).alloc (Nat.le_refl _) _
  have e : [xs, ys].flatten = xs ++ ys := by simp
  have z := mc.kfits_any _ kv bl tv gs _ [xs, ys] (hk.below hb) (hg.below hb) (bts_two h h' (by omega) (by omega)) (by rw [e, List.length_append]; omega)
  rw [e] at z
  refine z.mono ?_
  rintro x w' ⟨rfl, h2⟩
  exact ⟨rfl, hb.trans (h2.mono hb.size)⟩
/-- the keys that New makes -/
theorem kys_new {w : World} {c m : Nat} {ks : List Int} (h : xt.Cip w c (kd ks) (kt ks)) (h' : mc.KeyV w (.pointer (some ⟨m, 0, none⟩)) (mc.blk (kg ks))) : Kys (w.alloc (.cells #[.pointer (some ⟨c, 0, none⟩), .pointer (some ⟨m, 0, none⟩)] 52)) w.heap.size ks := by
  have hb : Below w.heap.size w (w.alloc (.cells #[.pointer (some ⟨c, 0, none⟩), .pointer (some ⟨m, 0, none⟩)] 52)) := (Below.refl _ _).alloc (Nat.le_refl _) _
  exact ⟨c, m, cell_of2 w _ _ 52 0 _ rfl, cell_of2 w _ _ 52 1 _ rfl, h.below hb, h'.below hb⟩
theorem hdH {p : Prop} (h : p) : Hid p := h
theorem ld_u64 {w : World} {b p : Nat} {x : Int} (h : w.cell? ⟨b, p, none⟩ = some (.int .u64 x)) : (Instr.loadAt 24 (.pointer (some ⟨b, p, none⟩))).run Tryz.prog w = .ok (.int .u64 x) w := by
  simp only [Instr.loadAt, Instr.sureAddr, Sem.run_bind, Sem.run_pure, Result.andThen_ok, run_load1 w b p 24 .u64 x Tryz.underlying24 h]
theorem ld_cptr {w : World} {b p : Nat} {v : Value} (h : w.cell? ⟨b, p, none⟩ = some v) : (Instr.loadAt 46 (.pointer (some ⟨b, p, none⟩))).run Tryz.prog w = .ok v w := by
  have : (loadVar 46 ⟨b, p, none⟩).run Tryz.prog w = .ok v w := by simp [loadVar, isAgg, run_underlying Tryz.underlying46, h]
  simp only [Instr.loadAt, Instr.sureAddr, Sem.run_bind, Sem.run_pure, Result.andThen_ok, this]
/-- len of a slice that is a letter -/
theorem len_law {ops : Array Oper} {rest : List Oper} {o : Oper} {a : Act} {Q : Exit → Act → World → Prop} (w : World) (hg : o.guard = none) (x : Operand) (hop : o.op = .call { callee := .builtin .len, args := #[x], argTypes := #[22] }) (v : Value) (xs : List Int) (n : Int) (hx : a.eval x = v) (hb : Byt w v xs) (hn : (xs.length : Int) = n)
    (hK : wpList Tryz.prog ops Q rest (a.put o.dst (.int .i64 n)) w) : wpList Tryz.prog ops Q (o :: rest) a w := by
  refine wpList_plain hg fun K hK' => ?_
  obtain ⟨ao, cap, rfl, -⟩ := hb
  subst hn
  unfold Oper.wp
  simp [execOp, hop, resolve, invoke, builtin, hx, Result.andThen]
  exact hK' _ _ hK
/-- a slice of two slices, in a drawn region -/
theorem step_two {ops : Array Oper} {o : Oper} {a : Act} {Q : Exit → Act → World → Prop} {K : Act → World → Prop} {E : Prop} (w : World) (hg : o.guard = none) (d : Option Tmp) (hd : o.dst = d) (x y : Operand) (hop : o.op = Op.buildSlice 72 2 #[(0, x), (1, y)]) (uo : Option Addr) (n uc : Nat) (vo : Option Addr) (m vc : Nat) (hx : a.eval x = .slice uo n uc) (hy : a.eval y = .slice vo m vc)
    (hK : K (a.put d (.slice (some ⟨w.heap.size, 0, none⟩) 2 2)) (w.alloc (.cells #[.slice uo n uc, .slice vo m vc] 22))) : if Region.wanted o (yielded ops a.tmps) = true then Oper.wp Tryz.prog o a w K Q else E := by
  have hw : Region.wanted o (yielded ops a.tmps) = true := by simp [Region.wanted, hg]
  rw [if_pos hw]
  subst hd
  have hrun : (Instr.buildSlice 72 2 #[(0, .slice uo n uc), (1, .slice vo m vc)]).run Tryz.prog w = .ok (.slice (some ⟨w.heap.size, 0, none⟩) 2 2) (w.alloc (.cells #[.slice uo n uc, .slice vo m vc] 22)) := by kernel_rfl
  unfold Oper.wp execOp
  simp only [hop, List.map_toArray, List.map_cons, List.map_nil, hx, hy, Sem.run_bind, Sem.run_pure, Result.andThen_ok, hrun]
  exact hK
theorem keeps_e {ks : List Int} (hl : ks.length = 96) (ha : AllB ks) : xt.Keeps (xt.xe (kd ks)) := fun m b hm hb => xt.xe_blk _ (kd_len hl) (kd_all ha) m b hm hb
theorem keeps_d {ks : List Int} (hl : ks.length = 96) (ha : AllB ks) : xt.Keeps (xt.xd (kd ks)) := fun m b hm hb => xt.xd_blk _ (kd_len hl) (kd_all ha) m b hm hb
theorem enc_len {ks ss : List Int} {N : Nat} (M : Nat) (hl : ks.length = 96) (ha : AllB ks) (hs : AllB ss) (h : ss.length = 16 * N) : (xt.run (xt.xe (kd ks)) M ss N).length = ss.length := by
  rw [xt.run_len _ (keeps_e hl ha) M ss hs N (by omega), h]
theorem dec_len {ks ss : List Int} {N : Nat} (M : Nat) (hl : ks.length = 96) (ha : AllB ks) (hs : AllB ss) (h : ss.length = 16 * N) : (xt.run (xt.xd (kd ks)) M ss N).length = ss.length := by
  rw [xt.run_len _ (keeps_d hl ha) M ss hs N (by omega), h]
theorem same_yes (w : World) (va vb : Value) (xs : List Int) (ha : Byt w va xs) (hb : Byt w vb xs) : Calls Tryz.prog 12 #[va, vb] w fun e w' => e = .returned (.bool true) ∧ Below w.heap.size w w' := by
  refine (same_any w va vb xs xs ha hb).mono ?_
  rintro e w' ⟨rfl, n, rfl⟩
  exact ⟨by rw [decide_eq_true rfl], he.below_drawn (Below.refl _ _) n⟩
theorem same_dec (w : World) (va vb : Value) (xs ys : List Int) (ha : Byt w va xs) (hy : Byt w vb ys) : Calls Tryz.prog 12 #[va, vb] w fun e w' => e = .returned (.bool (decide (xs = ys))) ∧ Below w.heap.size w w' :=
  (same_any w va vb xs ys ha hy).mono fun _ _ ⟨h1, n, h2⟩ => ⟨h1, by rw [h2]; exact he.below_drawn (Below.refl _ _) n⟩
end Go.Proofs.YtbkaecjkgjkheaaGreatDoor.se

