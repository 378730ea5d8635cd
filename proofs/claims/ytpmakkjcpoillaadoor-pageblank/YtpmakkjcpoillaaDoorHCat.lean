/- What slices.Grow, slices.Concat (of two, and of four) and bytes.Clone answer. No claim of its own. -/
import Derived.Test.YtpmakkjcpoillaaDoorFill
import Derived.Test.YtpmakkjcpoillaaDoorUOwn
import Derived.Test.YtpmakkjcpoillaaDoorArrG
import Derived.Lib.AppendZeros
import Derived.Lib.SliceRun
namespace Go.Proofs.YtpmakkjcpoillaaDoor.he
open Go.RowKit Go.Proofs.YtpmakkjcpoillaaDoor.fa
set_option maxRecDepth 20000

section
variable {ops : Array Oper} {rest : List Oper} {o : Oper} {a : Act} {Q : Exit → Act → World → Prop}
/-- 'append(nil, make([]byte, n)...)': room for n bytes -/
theorem zeros_law (w : World) (hg : o.guard = none) (s x : Operand) (hop : o.op = .call { callee := .builtin .append, args := #[s, x], argTypes := #[28, 3] })
    (L : Int) (n : Nat) (hs : a.eval s = .slice none 0 0) (hx : a.eval x = .int .i64 L) (hL : L = (n : Int)) (hp : 0 < n) (hn : n ≤ 1000000)
    (hK : ∀ cap w', n ≤ cap → cap ≤ 9223372036854775807 → Own w.heap.size w' (.slice (some ⟨w.heap.size, 0, none⟩) 0 cap) [] → Below w.heap.size w w' → wpList Tryd.prog ops Q rest (a.put o.dst (.slice (some ⟨w.heap.size, 0, none⟩) n cap)) w') :
    wpList Tryd.prog ops Q (o :: rest) a w := by
  refine wpList_plain hg fun K hK' => ?_
  obtain ⟨i0, hi, hz0, hz1, hz2⟩ := info_parts info_u8
  subst hL
  have hrun := Lib.run_append_nil_zeros (P := Tryd.prog) w 28 3 o.type 5 i0 (.int .u8 0) .i64 .i64 Tryd.underlying28 Tryd.underlying3 hi hz0 n hp (by rw [hz1]; decide) (by omega) (by rw [hz2]; omega)
  have hge := grownCap_ge w n 0 5
  have hcm : grownCap w n 0 5 ≤ maxLen := grownCap_le_maxLen w n 0 5 (by simp only [maxLen]; omega)
  unfold Oper.wp
  simp [execOp, hop, resolve, invoke, builtin, hs, hx, hrun, Result.andThen]
  refine hK' _ _ (hK _ _ hge (by simpa [maxLen] using hcm) ⟨by simp, .inr ⟨w.heap.size, _, _, rfl, Nat.le_refl _, heap_alloc_new w.drew _, Nat.zero_le _, hcm, ?_, by simp⟩⟩ ((Below.refl _ _).drew.alloc (Nat.le_refl _) _))
  have hz : (Value.int .u8 0).cells.size = 1 := rfl
  simp only [Array.size_append, size_zeroCells, hz]
  omega
end

set_option maxHeartbeats 1000000 in
theorem grow_any (n : Nat) (w : World) (hp : 0 < n) (hn : n ≤ 1000000) :
    Calls Tryd.prog 59 #[.slice none 0 0, .int .i64 (n : Int)] w fun e w' => ∃ v, e = .returned v ∧ Own w.heap.size w' v [] ∧ Below w.heap.size w w' := by
  have k1 : ¬ ((n : Int) < 0) := by omega
  have k2 : IntKind.i64.wrap ((n : Int) - 0) = (n : Int) := by rw [IntKind.wrap_i64]; omega
  have k3 : IntKind.i64.wrap (n : Int) = (n : Int) := by rw [IntKind.wrap_i64]; omega
  have k4 : (n : Int) > 0 := by omega
  go_enter Tryd.func59, Tryd.ntmps59
  go_wp2_with (at_builtin; refine zeros_law _ rfl (.tmp 20) (.tmp 21) rfl (n : Int) n rfl rfl rfl hp hn ?_; intro cap w1 c1 c2 o1 B1; have O1 : Hid (Own w.heap.size w1 (.slice (some ⟨w.heap.size, 0, none⟩) 0 cap) []) := o1; have c3 : (0 : Int) ≤ (cap : Int) := (by omega); clear o1)
  go_ret
  exact ⟨_, rfl, O1.out, B1⟩

set_option maxHeartbeats 1000000 in
theorem clone_any (w : World) (ad : Addr) (n cap : Nat) (xs : List Int) (h : Byt w (.slice (some ad) n cap) xs) (hl : xs.length ≤ 1000000) :
    Calls Tryd.prog 35 #[.slice (some ad) n cap] w fun e w' => ∃ v', e = .returned v' ∧ Own w.heap.size w' v' xs ∧ Below w.heap.size w w' := by
  have HV : Hid (Byt (w.alloc (.cells #[] 5)) (.slice (some ad) n cap) xs) := h.below ((Below.refl _ _).alloc (Nat.le_refl _) _)
  have HO : Hid (Own w.heap.size (w.alloc (.cells #[] 5)) (.slice (some ⟨w.heap.size, 0, none⟩) 0 0) []) := Own.empty w (Nat.le_refl _)
  have B0 : Below w.heap.size w (w.alloc (.cells #[] 5)) := (Below.refl _ _).alloc (Nat.le_refl _) _
  have z0 := B0.size
  have qn : ∀ w : World, (binOp .eql 28 (.slice (some ad) n cap) (.slice none 0 0)).run Tryd.prog w = .ok (.bool false) w := fun w => Lib.run_eql_slice_nil w _ _ (some ad) n cap 0 0 Tryd.underlying28
  clear h
  go_enter Tryd.func35, Tryd.ntmps35
  go_wp2_with (refine pushs_law _ rfl (.tmp 5) (.tmp 6) rfl w.heap.size z0 _ _ [] xs rfl rfl HO.out HV.out (by simp; omega) ?_; intro v1 w1 O1 b1; rw [List.nil_append] at O1; have HO1 : Hid (Own w.heap.size w1 v1 xs) := O1; clear O1; have c1 : Below w.heap.size w w1 := B0.trans b1)
  go_ret
  exact ⟨_, rfl, HO1.out, c1⟩

/-- the first k of some lists, one behind the other -/
def cats (xss : List (List Int)) (k : Nat) : List Int := (xss.take k).flatten
theorem cats_succ (xss : List (List Int)) (k : Nat) (h : k < xss.length) : cats xss (k + 1) = cats xss k ++ xss.getD k [] := by
  unfold cats
  rw [List.take_succ_eq_append_getElem h, List.flatten_append]
  simp [List.getD, h]
theorem cats_len (xss : List (List Int)) (h : ∀ k, k < xss.length → (xss.getD k []).length ≤ 10000) (k : Nat) (hk : k ≤ xss.length) : (cats xss k).length ≤ k * 10000 := by
  induction k with
  | zero => simp [cats]
  | succ k ih =>
    rw [cats_succ xss k (by omega), List.length_append]
    have := ih (by omega)
    have := h k (by omega)
    omega

set_option linter.unusedSimpArgs false in
set_option maxHeartbeats 4000000 in
theorem concat_any (c m : Nat) (u : Nat → Value) (xss : List (List Int)) (w : World) (hm : xss.length = m) (hm8 : m ≤ 8) (hu : ∀ k, k < m → Byt w (u k) (xss.getD k [])) (hl : ∀ k, k < xss.length → (xss.getD k []).length ≤ 10000) (hp : 0 < (cats xss m).length) (hc : ∀ k, k < m → w.cell? ⟨c, k, none⟩ = some (u k)) :
    Calls Tryd.prog 44 #[.slice (some ⟨c, 0, none⟩) m m] w fun e w' => ∃ r, e = .returned r ∧ Own w.heap.size w' r (cats xss m) ∧ Below w.heap.size w w' := by
  have HG : Hid (∀ w, Calls Tryd.prog 59 #[.slice none 0 0, .int .i64 (((cats xss m).length : Nat) : Int)] w fun e w' => ∃ v, e = .returned v ∧ Own w.heap.size w' v [] ∧ Below w.heap.size w w') := fun w => grow_any _ w hp (by have := cats_len xss hl m (by omega); omega)
  have HL : Hid (∀ k, k ≤ m → (cats xss k).length ≤ 80000) := fun k hk => by have := cats_len xss hl k (by omega); omega
  have HS : Hid (∀ k, k < m → cats xss (k + 1) = cats xss k ++ xss.getD k []) := fun k hk => cats_succ xss k (by omega)
  have HU : Hid (∀ k, k < m → Byt w (u k) (xss.getD k [])) := hu
  have HX : Hid (∀ k, k < m → (xss.getD k []).length ≤ 10000) := fun k hk => hl k (by omega)
  have HC : Hid (∀ k, k < m → w.cell? ⟨c, k, none⟩ = some (u k)) := hc
  have H0 : Hid (cats xss 0 = []) := rfl
  clear hu hc hl
  obtain ⟨f, hf⟩ : ∃ f : Nat → Nat, f = fun k => (cats xss k).length := ⟨_, rfl⟩
  have HF : Hid (∀ k, (cats xss k).length = f k) := fun k => by rw [hf]
  have hfm : f m = (cats xss m).length := by rw [hf]
  rw [← hfm] at HG hp
  have F0 : Hid (f 0 = 0) := by rw [hf]; rfl
  clear hf hfm
  go_enter Tryd.func44, Tryd.ntmps44
  go_wp2
  go_loopw [11, 3] (fun i z wr => ∃ k : Nat, k ≤ m ∧ i = .int .i64 (k : Int) ∧ z = .int .i64 ((f k : Nat) : Int) ∧ wr = w) (fun i _ _ => m - (intOf i).toNat)
  case atStart => exact ⟨0, Nat.zero_le _, rfl, by rw [F0.out]; rfl, rfl⟩
  case round =>
    obtain ⟨k, hk, rfl, rfl, rfl⟩ := hrel
    by_cases hlt : k < m
    · have cc := HC.out k hlt
      have yy := HU.out k hlt
      have lx := HX.out k hlt
      have e1 : f (k + 1) = f k + (xss.getD k []).length := by rw [← HF.out, ← HF.out, HS.out k hlt, List.length_append]
      have l1 : f k ≤ 80000 := by rw [← HF.out]; exact HL.out k hk
      generalize xss.getD k [] = ys at yy lx e1
      obtain ⟨uo, uc, hue, -⟩ := yy
      rw [hue] at cc
      generalize ys.length = a at *
      generalize f k = z at *
      have FK : Hid (f (k + 1) = z + a) := e1
      clear e1 hue
      have q1 : IntKind.i64.wrap ((z : Int) + (a : Int)) = (z : Int) + (a : Int) := by rw [IntKind.wrap_i64]; omega
      have q2 : ¬ ((z : Int) + (a : Int) < 0) := by omega
      go_wp2
      go_roundw
      case rel => exact ⟨k + 1, by omega, by go_num, by rw [FK.out]; rfl, trivial⟩
      case measure => simp [intOf]; omega
    · have hks : k = m := by omega
      subst hks
      obtain ⟨wa, rfl⟩ : ∃ wx, wx = wr := ⟨_, rfl⟩
      go_wp2_with (go_at_call 59; refine (HG.out _).mono ?_; rintro e w1 ⟨v1, rfl, o1, B1⟩; have O1 : Hid (Own wa.heap.size w1 v1 []) := o1; clear o1)
      go_loopw [27, 6] (fun i o wx => ∃ j : Nat, j ≤ k ∧ i = .int .i64 (j : Int) ∧ Own wa.heap.size wx o (cats xss j) ∧ Below wa.heap.size wa wx) (fun i _ _ => k - (intOf i).toNat)
      case atStart => exact ⟨0, Nat.zero_le _, rfl, O1.out, B1⟩
      case round =>
        clear B1 O1
        obtain ⟨j, hj, rfl, o2, B2⟩ := hrel
        by_cases hlj : j < k
        · have cc : wr.cell? ⟨c, j, none⟩ = some (u j) := (B2.cell (World.block_lt_of_cell? _ _ (HC.out j hlj))).trans (HC.out j hlj)
          have yy := (HU.out j hlj).below B2
          have lx := HX.out j hlj
          have lc := HL.out j hj
          have e1 := HS.out j hlj
          generalize xss.getD j [] = ys at yy lx e1
          have YY : Hid (Byt wr (u j) ys) := yy
          have O2 : Hid (Own wa.heap.size wr u6 (cats xss j)) := o2
          have E1 : Hid (cats xss (j + 1) = cats xss j ++ ys) := e1
          have z2 := B2.size
          have LL : Hid (ys.length ≤ 10000 ∧ (cats xss j).length ≤ 80000) := ⟨lx, lc⟩
          generalize u j = uj at *
          clear o2 yy e1 lx lc
          go_wp2_with (at_builtin; refine pushs_law _ rfl (.tmp 31) (.tmp 32) rfl wa.heap.size z2 _ _ (cats xss j) ys rfl rfl O2.out YY.out (by have := LL.out; omega) ?_; intro v3 w3 o3 B3; have O3 : Hid (Own wa.heap.size w3 v3 (cats xss j ++ ys)) := o3; clear o3)
          go_roundw
          case rel => exact ⟨j + 1, by omega, by go_num, by rw [E1.out]; exact O3.out, B2.trans B3⟩
          case measure => simp [intOf]; omega
        · have hjs : j = k := by omega
          subst hjs
          go_wp2
          go_ret
          exact ⟨_, rfl, o2, B2⟩
end Go.Proofs.YtpmakkjcpoillaaDoor.he
