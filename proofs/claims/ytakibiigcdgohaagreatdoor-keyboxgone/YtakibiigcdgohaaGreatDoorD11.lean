/- Parts of the proof: what KeyboxGone reaches. No claim of its own. -/
import Derived.Lib.AppendZeros
import Derived.Lib.SliceRun
import Derived.Deep.WholeRow
import Derived.Deep.MidRow
import Derived.Laws.StructEq
import Derived.WalkKit
import Derived.Deep.QuietTactic
import Derived.Laws.AppendOwnNone
import Derived.Deep.RegionHeld3
import Derived.WalkSmall
import Derived.ProofKit
import Derived.OpenShut
import Derived.BigQuiet
import Derived.Deep.DeepCutAuto
import Derived.Test.YtakibiigcdgohaaGreatDoorD00
import Derived.Test.YtakibiigcdgohaaGreatDoorD01
import Derived.Test.YtakibiigcdgohaaGreatDoorD02
import Derived.Test.YtakibiigcdgohaaGreatDoorD03
import Derived.Test.YtakibiigcdgohaaGreatDoorD09
import Derived.Test.YtakibiigcdgohaaGreatDoorD10
set_option maxHeartbeats 8000000
namespace Go.Proofs.YtakibiigcdgohaaGreatDoor.he
open Go.RowKit Go.Proofs.YtakibiigcdgohaaGreatDoor.fa
set_option maxRecDepth 20000
section
variable {ops : Array Oper} {rest : List Oper} {o : Oper} {a : Act} {Q : Exit → Act → World → Prop}
theorem zeros_law (w : World) (hg : o.guard = none) (s x : Operand) (hop : o.op = .call { callee := .builtin .append, args := #[s, x], argTypes := #[35, 3] })
    (L : Int) (n : Nat) (hs : a.eval s = .slice none 0 0) (hx : a.eval x = .int .i64 L) (hL : L = (n : Int)) (hp : 0 < n) (hn : n ≤ 1000000)
    (hK : ∀ cap w', n ≤ cap → cap ≤ 9223372036854775807 → Own w.heap.size w' (.slice (some ⟨w.heap.size, 0, none⟩) 0 cap) [] → Below w.heap.size w w' → wpList Tryz.prog ops Q rest (a.put o.dst (.slice (some ⟨w.heap.size, 0, none⟩) n cap)) w') :
    wpList Tryz.prog ops Q (o :: rest) a w := by
  refine wpList_plain hg fun K hK' => ?_
  obtain ⟨i0, hi, hz0, hz1, hz2⟩ := info_parts info_u8
  subst hL
  have hrun := Lib.run_append_nil_zeros (P := Tryz.prog) w 35 3 o.type 5 i0 (.int .u8 0) .i64 .i64 Tryz.underlying35 Tryz.underlying3 hi hz0 n hp (by rw [hz1]; decide) (by omega) (by rw [hz2]; omega)
  have hge := grownCap_ge w n 0 5
  have hcm : grownCap w n 0 5 ≤ maxLen := grownCap_le_maxLen w n 0 5 (by simp only [maxLen]; omega)
  unfold Oper.wp
  simp [execOp, hop, resolve, invoke, builtin, hs, hx, hrun, Result.andThen]
  refine hK' _ _ (hK _ _ hge (by simpa [maxLen] using hcm) ⟨by simp, .inr ⟨w.heap.size, _, _, rfl, Nat.le_refl _, heap_alloc_new w.drew _, Nat.zero_le _, hcm, ?_, by simp⟩⟩ ((Below.refl _ _).drew.alloc (Nat.le_refl _) _))
  have hz : (Value.int .u8 0).cells.size = 1 := rfl
  simp only [Array.size_append, size_zeroCells, hz]
  omega
end
theorem grow_any (n : Nat) (w : World) (hp : 0 < n) (hn : n ≤ 1000000) :
    Calls Tryz.prog 139 #[.slice none 0 0, .int .i64 (n : Int)] w fun e w' => ∃ v, e = .returned v ∧ Own w.heap.size w' v [] ∧ Below w.heap.size w w' := by
  have k1 : ¬ ((n : Int) < 0) := by omega
  have k2 : IntKind.i64.wrap ((n : Int) - 0) = (n : Int) := by rw [IntKind.wrap_i64]; omega
  have k3 : IntKind.i64.wrap (n : Int) = (n : Int) := by rw [IntKind.wrap_i64]; omega
  have k4 : (n : Int) > 0 := by omega
  go_enter Tryz.func139, Tryz.ntmps139
  go_wp2_with (at_builtin; refine zeros_law _ rfl (.tmp 20) (.tmp 21) rfl (n : Int) n rfl rfl rfl hp hn ?_; intro cap w1 c1 c2 o1 B1; have O1 : Hid (Own w.heap.size w1 (.slice (some ⟨w.heap.size, 0, none⟩) 0 cap) []) := o1; have c3 : (0 : Int) ≤ (cap : Int) := (by omega); clear o1)
  go_ret
  exact ⟨_, rfl, O1.out, B1⟩
theorem clone_any (w : World) (ad : Addr) (n cap : Nat) (xs : List Int) (h : Byt w (.slice (some ad) n cap) xs) (hl : xs.length ≤ 1000000) :
    Calls Tryz.prog 48 #[.slice (some ad) n cap] w fun e w' => ∃ v', e = .returned v' ∧ Own w.heap.size w' v' xs ∧ Below w.heap.size w w' := by
  have HV : Hid (Byt (w.alloc (.cells #[] 5)) (.slice (some ad) n cap) xs) := h.below ((Below.refl _ _).alloc (Nat.le_refl _) _)
  have HO : Hid (Own w.heap.size (w.alloc (.cells #[] 5)) (.slice (some ⟨w.heap.size, 0, none⟩) 0 0) []) := Own.empty w (Nat.le_refl _)
  have B0 : Below w.heap.size w (w.alloc (.cells #[] 5)) := (Below.refl _ _).alloc (Nat.le_refl _) _
  have z0 := B0.size
  have qn : ∀ w : World, (binOp .eql 35 (.slice (some ad) n cap) (.slice none 0 0)).run Tryz.prog w = .ok (.bool false) w := fun w => Lib.run_eql_slice_nil w _ _ (some ad) n cap 0 0 Tryz.underlying35
  clear h
  go_enter Tryz.func48, Tryz.ntmps48
  go_wp2_with (refine pushs_law _ rfl (.tmp 5) (.tmp 6) rfl w.heap.size z0 _ _ [] xs rfl rfl HO.out HV.out (by simp; omega) ?_; intro v1 w1 O1 b1; rw [List.nil_append] at O1; have HO1 : Hid (Own w.heap.size w1 v1 xs) := O1; clear O1; have c1 : Below w.heap.size w w1 := B0.trans b1)
  go_ret
  exact ⟨_, rfl, HO1.out, c1⟩
def cats (xss : List (List Int)) (k : Nat) : List Int := (xss.take k).flatten
theorem cats_succ (xss : List (List Int)) (k : Nat) (h : k < xss.length) : cats xss (k + 1) = cats xss k ++ xss.getD k [] := by
  unfold cats
  rw [List.take_succ_eq_append_getElem h, List.flatten_append]
  simp [List.getD, h]
theorem cats_len (xss : List (List Int)) (h : ∀ k, k < xss.length → (xss.getD k []).length ≤ 10000) (k : Nat) (hk : k ≤ xss.length) : (cats xss k).length ≤ k * 10000 := by
  induction k with
  | zero => simp [cats]
  | succ k ih =>
    rw [cats_succ xss k (by omega), List.length_append]
    have := ih (by omega)
    have := h k (by omega)
    omega
set_option linter.unusedSimpArgs false in
theorem concat_any (c m : Nat) (u : Nat → Value) (xss : List (List Int)) (w : World) (hm : xss.length = m) (hm8 : m ≤ 8) (hu : ∀ k, k < m → Byt w (u k) (xss.getD k [])) (hl : ∀ k, k < xss.length → (xss.getD k []).length ≤ 10000) (hp : 0 < (cats xss m).length) (hc : ∀ k, k < m → w.cell? ⟨c, k, none⟩ = some (u k)) :
    Calls Tryz.prog 113 #[.slice (some ⟨c, 0, none⟩) m m] w fun e w' => ∃ r, e = .returned r ∧ Own w.heap.size w' r (cats xss m) ∧ Below w.heap.size w w' := by
  have HG : Hid (∀ w, Calls Tryz.prog 139 #[.slice none 0 0, .int .i64 (((cats xss m).length : Nat) : Int)] w fun e w' => ∃ v, e = .returned v ∧ Own w.heap.size w' v [] ∧ Below w.heap.size w w') := fun w => grow_any _ w hp (by have := cats_len xss hl m (by omega); omega)
  have HL : Hid (∀ k, k ≤ m → (cats xss k).length ≤ 80000) := fun k hk => by have := cats_len xss hl k (by omega); omega
  have HS : Hid (∀ k, k < m → cats xss (k + 1) = cats xss k ++ xss.getD k []) := fun k hk => cats_succ xss k (by omega)
  have HU : Hid (∀ k, k < m → Byt w (u k) (xss.getD k [])) := hu
  have HX : Hid (∀ k, k < m → (xss.getD k []).length ≤ 10000) := fun k hk => hl k (by omega)
  have HC : Hid (∀ k, k < m → w.cell? ⟨c, k, none⟩ = some (u k)) := hc
  have H0 : Hid (cats xss 0 = []) := rfl
  clear hu hc hl
  obtain ⟨f, hf⟩ : ∃ f : Nat → Nat, f = fun k => (cats xss k).length := ⟨_, rfl⟩
  have HF : Hid (∀ k, (cats xss k).length = f k) := fun k => by rw [hf]
  have hfm : f m = (cats xss m).length := by rw [hf]
  rw [← hfm] at HG hp
  have F0 : Hid (f 0 = 0) := by rw [hf]; rfl
  clear hf hfm
  go_enter Tryz.func113, Tryz.ntmps113
  go_wp2
  go_loopw [11, 3] (fun i z wr => ∃ k : Nat, k ≤ m ∧ i = .int .i64 (k : Int) ∧ z = .int .i64 ((f k : Nat) : Int) ∧ wr = w) (fun i _ _ => m - (intOf i).toNat)
  case atStart => exact ⟨0, Nat.zero_le _, rfl, by rw [F0.out]; rfl, rfl⟩
  case round =>
    obtain ⟨k, hk, rfl, rfl, rfl⟩ := hrel
    by_cases hlt : k < m
    · have cc := HC.out k hlt
      have yy := HU.out k hlt
      have lx := HX.out k hlt
      have e1 : f (k + 1) = f k + (xss.getD k []).length := by rw [← HF.out, ← HF.out, HS.out k hlt, List.length_append]
      have l1 : f k ≤ 80000 := by rw [← HF.out]; exact HL.out k hk
      generalize xss.getD k [] = ys at yy lx e1
      obtain ⟨uo, uc, hue, -⟩ := yy
      rw [hue] at cc
      generalize ys.length = a at *
      generalize f k = z at *
      have FK : Hid (f (k + 1) = z + a) := e1
      clear e1 hue
      have q1 : IntKind.i64.wrap ((z : Int) + (a : Int)) = (z : Int) + (a : Int) := by rw [IntKind.wrap_i64]; omega
      have q2 : ¬ ((z : Int) + (a : Int) < 0) := by omega
      go_wp2
      go_roundw
      case rel => exact ⟨k + 1, by omega, by go_num, by rw [FK.out]; rfl, trivial⟩
      case measure => simp [intOf]; omega
    · have hks : k = m := by omega
      subst hks
      obtain ⟨wa, rfl⟩ : ∃ wx, wx = wr := ⟨_, rfl⟩
      go_wp2_with (go_at_call 139; refine (HG.out _).mono ?_; rintro e w1 ⟨v1, rfl, o1, B1⟩; have O1 : Hid (Own wa.heap.size w1 v1 []) := o1; clear o1)
      go_loopw [27, 6] (fun i o wx => ∃ j : Nat, j ≤ k ∧ i = .int .i64 (j : Int) ∧ Own wa.heap.size wx o (cats xss j) ∧ Below wa.heap.size wa wx) (fun i _ _ => k - (intOf i).toNat)
      case atStart => exact ⟨0, Nat.zero_le _, rfl, O1.out, B1⟩
      case round =>
        clear B1 O1
        obtain ⟨j, hj, rfl, o2, B2⟩ := hrel
        by_cases hlj : j < k
        · have cc : wr.cell? ⟨c, j, none⟩ = some (u j) := (B2.cell (World.block_lt_of_cell? _ _ (HC.out j hlj))).trans (HC.out j hlj)
          have yy := (HU.out j hlj).below B2
          have lx := HX.out j hlj
          have lc := HL.out j hj
          have e1 := HS.out j hlj
          generalize xss.getD j [] = ys at yy lx e1
          have YY : Hid (Byt wr (u j) ys) := yy
          have O2 : Hid (Own wa.heap.size wr u6 (cats xss j)) := o2
          have E1 : Hid (cats xss (j + 1) = cats xss j ++ ys) := e1
          have z2 := B2.size
          have LL : Hid (ys.length ≤ 10000 ∧ (cats xss j).length ≤ 80000) := ⟨lx, lc⟩
          generalize u j = uj at *
          clear o2 yy e1 lx lc
          go_wp2_with (at_builtin; refine pushs_law _ rfl (.tmp 31) (.tmp 32) rfl wa.heap.size z2 _ _ (cats xss j) ys rfl rfl O2.out YY.out (by have := LL.out; omega) ?_; intro v3 w3 o3 B3; have O3 : Hid (Own wa.heap.size w3 v3 (cats xss j ++ ys)) := o3; clear o3)
          go_roundw
          case rel => exact ⟨j + 1, by omega, by go_num, by rw [E1.out]; exact O3.out, B2.trans B3⟩
          case measure => simp [intOf]; omega
        · have hjs : j = k := by omega
          subst hjs
          go_wp2
          go_ret
          exact ⟨_, rfl, o2, B2⟩
end Go.Proofs.YtakibiigcdgohaaGreatDoor.he
namespace Go.Proofs.YtakibiigcdgohaaGreatDoor.he
open Go.RowKit Go.Proofs.YtakibiigcdgohaaGreatDoor.fa
set_option maxRecDepth 20000
theorem room_law {ops : Array Oper} {rest : List Oper} {o : Oper} {a : Act} {Q : Exit → Act → World → Prop} (w : World) (hg : o.guard = none) (l c : Operand) (hop : o.op = Op.makeSlice 35 l c) (B : Nat) (hB : B ≤ w.heap.size)
    (n : Nat) (hl : a.eval l = .int .i64 0) (hc : a.eval c = .int .i64 (n : Int)) (hn : n ≤ 1099511627776)
    (hK : ∀ w', Own B w' (.slice (some ⟨w.heap.size, 0, none⟩) 0 n) [] → Below B w w' → w.heap.size < w'.heap.size → wpList Tryz.prog ops Q rest (a.put o.dst (.slice (some ⟨w.heap.size, 0, none⟩) 0 n)) w') :
    wpList Tryz.prog ops Q (o :: rest) a w := by
  obtain ⟨i0, hi, hz0, hz1, hz2⟩ := info_parts info_u8
  refine wpList_make_own w hg l c 35 hop B 5 i0 (.int .u8 0) 1 Tryz.underlying35 hi hz0 hz1 .i64 .i64 (n : Int) n hl hc rfl (by rw [hz2]; omega) (by simp only [maxLen]; omega) hB fun w' h1 h2 => ?_
  exact hK w' h1 ((Below.refl B w).grown h2 hB (fun k hk => by cases hk)) (h1.lt w.heap.size rfl).2
theorem own_low {B : Nat} {w w' : World} {v : Value} {xs : List Int} (h : Own B w v xs) (hb : Below w.heap.size w w') : Own B w' v xs := World.ownsRow.kept h ⟨hb.os, hb.tape, hb.output, hb.size, fun j hj _ => hb.block j hj⟩ (by cases hv : v.ownBlock <;> simp) (row := none)
theorem own_less {w : World} {B B' : Nat} {v : Value} {xs : List Int} (h : Own B w v xs) (hB : B' ≤ B) : Own B' w v xs := by
  obtain ⟨a1, a2⟩ := h
  refine ⟨a1, ?_⟩
  rcases a2 with e1 | ⟨g', c', u', e1, e2, e3⟩
  · exact Or.inl e1
  · exact Or.inr ⟨g', c', u', e1, by omega, e3⟩
def prts (k n c l e t : Int) : List (List Int) := [[k], [n], [c], [0], be l 4, be e 8, be t 8]
theorem prts_hb (k n c l e t : Int) : cats (prts k n c l e t) 7 = hb k n c l e t := by simp [cats, prts, hb]
theorem be1 (x : Int) (h : 0 ≤ x ∧ x ≤ 255) : (le x (clamp 1 8)).reverse = [x] := by
  show [x % 256] = [x]
  rw [Int.emod_eq_of_lt h.1 (by omega)]
theorem clamp48 : clamp 4 8 = 4 ∧ clamp 8 8 = 8 ∧ clamp 1 8 = 1 := by decide
theorem hbytes_yes (k n c l e t : Int) (w : World) (h : Rh k n c) (hl : 0 ≤ l ∧ l ≤ 4294967295) (he : 0 ≤ e ∧ e ≤ 18446744073709551615) (ht : 0 ≤ t ∧ t ≤ 18446744073709551615) (hT : Tab w) :
    Calls Tryz.prog 141 #[.agg (hv k n c l e t).toArray] w fun x w' => ∃ v, x = .returned (.tuple #[v, .int .i64 0]) ∧ Own w.heap.size w' v (hb k n c l e t) ∧ Below w.heap.size w w' := by
  have t0 := tR
  obtain ⟨r1, r2, r3, r4, r5, r6⟩ := h
  have K1 : Hid (true = decide (1 ≤ k ∧ k ≤ 4)) := by show _ = _; simp; omega
  have K2 : Hid (true = decide (0 ≤ n ∧ n ≤ 255)) := by show _ = _; simp; omega
  have K3 : Hid (true = decide (0 ≤ c ∧ c ≤ 255)) := by show _ = _; simp; omega
  have SO : Hid (∀ w, Calls Tryz.prog 159 #[.agg (hv k n c l e t).toArray] w fun x w' => x = .returned (.agg #[.int .u64 k, .int .u64 n, .int .u64 c, .int .u64 0, .int .u64 l, .int .u64 e, .int .u64 t]) ∧ Below w.heap.size w w') := fun w => of_any k n c l e t w (by omega) (by omega) (by omega) hl
  have SK : Hid (∀ x, 0 ≤ x ∧ x ≤ 255 → ∀ w, Calls Tryz.prog 160 #[.int .u64 x, .int .i64 1] w fun e w' => ∃ v, e = .returned v ∧ Byt w' v [x] ∧ Below w.heap.size w w') := fun x hx w => by
    have := big_any x 1 w (by omega)
    rw [be1 x hx] at this
    exact this
  have S4 : Hid (∀ w, Calls Tryz.prog 160 #[.int .u64 l, .int .i64 4] w fun e w' => ∃ v, e = .returned v ∧ Byt w' v (be l 4) ∧ Below w.heap.size w w') := fun w => by
    have := big_any l 4 w (by omega)
    rw [clamp48.1] at this
    exact this
  have S8 : Hid (∀ x, 0 ≤ x ∧ x ≤ 18446744073709551615 → ∀ w, Calls Tryz.prog 160 #[.int .u64 x, .int .i64 8] w fun e w' => ∃ v, e = .returned v ∧ Byt w' v (be x 8) ∧ Below w.heap.size w w') := fun x hx w => by
    have := big_any x 8 w hx
    rw [clamp48.2.1] at this
    exact this
  have HE : Hid (cats (prts k n c l e t) 7 = hb k n c l e t) := prts_hb k n c l e t
  have HP : Hid ((0 ≤ k ∧ k ≤ 255) ∧ (0 ≤ n ∧ n ≤ 255) ∧ (0 ≤ c ∧ c ≤ 255)) := ⟨by omega, by omega, by omega⟩
  have H8 : Hid ((0 ≤ e ∧ e ≤ 18446744073709551615) ∧ (0 ≤ t ∧ t ≤ 18446744073709551615)) := ⟨he, ht⟩
  have HT : Hid (Tab w) := hT
  have HS : Hid (∀ j, j < 7 → cats (prts k n c l e t) (j + 1) = cats (prts k n c l e t) j ++ (prts k n c l e t).getD j []) := fun j hj => cats_succ _ j hj
  have HLN : Hid (∀ j, j ≤ 7 → (cats (prts k n c l e t) j).length ≤ 80000) := fun j hj => by
    have := cats_len (prts k n c l e t) (fun i hi => by
      have hi : i < 7 := hi
      match i, hi with
      | 0, _ => simp [prts]
      | 1, _ => simp [prts]
      | 2, _ => simp [prts]
      | 3, _ => simp [prts]
      | 4, _ => simp [prts, be_len]
      | 5, _ => simp [prts, be_len]
      | 6, _ => simp [prts, be_len]) j hj
    omega
  generalize hP : cats (prts k n c l e t) = P at *
  have H0 : Hid (P 0 = []) := by rw [← hP]; rfl
  generalize hb k n c l e t = Z at *
  clear r1 r2 r3 r4 r5 r6 hl he ht hT hP
  go_enter Tryz.func141, Tryz.ntmps141
  go_wp2_with (first
    | (have q6 := t6; go_at_call 159; refine (SO.out _).mono ?_; rintro e9 w3 ⟨rfl, B3⟩; have O3 : Hid (Own w.heap.size w3 (.slice (some ⟨w1.heap.size, 0, none⟩) 0 24) []) := own_low O2.out B3; have C3 : Hid (Below w.heap.size w w3) := C2.out.trans (B3.mono C2.out.size); clear B3 t6 c0 c1 c2 c3 c4 c5)
    | (have q4 := t4; at_make; refine room_law _ rfl _ _ rfl w1.heap.size (Nat.le_refl _) 24 rfl rfl (by omega) ?_; intro w2 o2 B2 s2; have O2 : Hid (Own w.heap.size w2 (.slice (some ⟨w1.heap.size, 0, none⟩) 0 24) []) := own_less o2 (by omega); have A2 := HV.out.below B2 s1; have c0 := A2.cell 0 _ rfl; have c1 := A2.cell 1 _ rfl; have c2 := A2.cell 2 _ rfl; have c3 := A2.cell 3 _ rfl; have c4 := A2.cell 4 _ rfl; have c5 := A2.cell 5 _ rfl; have C2 : Hid (Below w.heap.size w w2) := B1.trans (B2.mono (by omega)); clear A2 o2 B2 t4; have t6 := tR)
    | (have q3 := t3; go_at_call 158; refine (byte_any c _ true K3.out).mono ?_; rintro e9 w9 ⟨rfl, hw⟩; obtain rfl := hw.symm; clear t3; have t4 := tR)
    | (have q2 := t2; go_at_call 158; refine (byte_any n _ true K2.out).mono ?_; rintro e9 w9 ⟨rfl, hw⟩; obtain rfl := hw.symm; clear t2; have t3 := tR)
    | (have q1 := t1; go_at_call 131; refine (kind_any k _ true K1.out).mono ?_; rintro e9 w9 ⟨rfl, hw⟩; obtain rfl := hw.symm; clear t1; have t2 := tR)
    | (have q0 := t0; refine box_lawC _ (hv k n c l e t) rfl ?_; intro w1 V1 B1 s1; have c0 := V1.cell 0 _ rfl; have c1 := V1.cell 1 _ rfl; have c2 := V1.cell 2 _ rfl; have HV : Hid (Vr w1 w.heap.size (hv k n c l e t)) := V1; clear V1 t0; have t1 := tR))
  go_loopw [26, 4] (fun i o wr => ((i = .int .i64 0 ∧ Own w.heap.size wr o (P 0)) ∨ (i = .int .i64 1 ∧ Own w.heap.size wr o (P 1)) ∨ (i = .int .i64 2 ∧ Own w.heap.size wr o (P 2)) ∨ (i = .int .i64 3 ∧ Own w.heap.size wr o (P 3)) ∨ (i = .int .i64 4 ∧ Own w.heap.size wr o (P 4)) ∨ (i = .int .i64 5 ∧ Own w.heap.size wr o (P 5)) ∨ (i = .int .i64 6 ∧ Own w.heap.size wr o (P 6)) ∨ (i = .int .i64 7 ∧ Own w.heap.size wr o (P 7))) ∧ Below w.heap.size w wr) (fun i _ _ => 7 - (intOf i).toNat)
  case atStart => exact ⟨.inl ⟨rfl, by rw [H0.out]; exact O3.out⟩, C3.out⟩
  case round =>
    clear O2 O3 C2 C3
    obtain ⟨hrel, b4⟩ := hrel
    have C4 : Hid (Below w.heap.size w wr) := b4
    have z4 := b4.size
    have TT : Hid (Tab wr) := HT.out.below b4
    clear b4
    obtain ⟨rfl, o4⟩ | ⟨rfl, o4⟩ | ⟨rfl, o4⟩ | ⟨rfl, o4⟩ | ⟨rfl, o4⟩ | ⟨rfl, o4⟩ | ⟨rfl, o4⟩ | ⟨rfl, o4⟩ := hrel
    · have hcell : wr.cell? ⟨1, 0, none⟩ = some (.int .i64 1) := TT.out 0 (by omega)
      have E1 : Hid (P 1 = P 0 ++ [k]) := HS.out 0 (by omega)
      have L1 : Hid ((P 0).length ≤ 80000) := HLN.out 0 (by omega)
      have LB : Hid (([k]).length ≤ 8) := by show _ ≤ _; simp
      have O4 : Hid (Own w.heap.size wr u4 (P 0)) := o4
      clear o4
      have u0 : (0 : Nat) = 0 := rfl
      go_wp2_with (first
        | (have q := u0; refine idx_law _ rfl (.tmp 25) (.tmp 26) 201 rfl _ _ (.int .u64 k) rfl rfl (by kernel_rfl) ?_; clear u0)
        | (at_builtin; refine pushs_law _ rfl (.tmp 30) (.tmp 35) rfl w.heap.size z5 _ _ (P 0) ([k]) rfl rfl O5.out Y5.out (by have := L1.out; have := LB.out; omega) ?_; intro v6 w6 o6 B6; have O6 : Hid (Own w.heap.size w6 v6 (P 0 ++ [k])) := o6; clear o6)
        | (go_at_call 160; refine (SK.out _ HP.out.1 _).mono ?_; rintro e9 w5 ⟨v5, rfl, y5, B5⟩; have Y5 : Hid (Byt w5 v5 ([k])) := y5; have O5 : Hid (Own w.heap.size w5 u4 (P 0)) := own_low O4.out B5; have C5 : Hid (Below w.heap.size w w5) := C4.out.trans (B5.mono z4); have z5 := C5.out.size; clear y5 B5))
      go_roundw
      case rel => exact ⟨.inr (.inl ⟨rfl, by rw [E1.out]; exact O6.out⟩), C5.out.trans B6⟩
      case measure => simp [intOf]
    · have hcell : wr.cell? ⟨1, 1, none⟩ = some (.int .i64 1) := TT.out 1 (by omega)
      have E1 : Hid (P 2 = P 1 ++ [n]) := HS.out 1 (by omega)
      have L1 : Hid ((P 1).length ≤ 80000) := HLN.out 1 (by omega)
      have LB : Hid (([n]).length ≤ 8) := by show _ ≤ _; simp
      have O4 : Hid (Own w.heap.size wr u4 (P 1)) := o4
      clear o4
      have u0 : (0 : Nat) = 0 := rfl
      go_wp2_with (first
        | (have q := u0; refine idx_law _ rfl (.tmp 25) (.tmp 26) 201 rfl _ _ (.int .u64 n) rfl rfl (by kernel_rfl) ?_; clear u0)
        | (at_builtin; refine pushs_law _ rfl (.tmp 30) (.tmp 35) rfl w.heap.size z5 _ _ (P 1) ([n]) rfl rfl O5.out Y5.out (by have := L1.out; have := LB.out; omega) ?_; intro v6 w6 o6 B6; have O6 : Hid (Own w.heap.size w6 v6 (P 1 ++ [n])) := o6; clear o6)
        | (go_at_call 160; refine (SK.out _ HP.out.2.1 _).mono ?_; rintro e9 w5 ⟨v5, rfl, y5, B5⟩; have Y5 : Hid (Byt w5 v5 ([n])) := y5; have O5 : Hid (Own w.heap.size w5 u4 (P 1)) := own_low O4.out B5; have C5 : Hid (Below w.heap.size w w5) := C4.out.trans (B5.mono z4); have z5 := C5.out.size; clear y5 B5))
      go_roundw
      case rel => exact ⟨.inr (.inr (.inl ⟨rfl, by rw [E1.out]; exact O6.out⟩)), C5.out.trans B6⟩
      case measure => simp [intOf]
    · have hcell : wr.cell? ⟨1, 2, none⟩ = some (.int .i64 1) := TT.out 2 (by omega)
      have E1 : Hid (P 3 = P 2 ++ [c]) := HS.out 2 (by omega)
      have L1 : Hid ((P 2).length ≤ 80000) := HLN.out 2 (by omega)
      have LB : Hid (([c]).length ≤ 8) := by show _ ≤ _; simp
      have O4 : Hid (Own w.heap.size wr u4 (P 2)) := o4
      clear o4
      have u0 : (0 : Nat) = 0 := rfl
      go_wp2_with (first
        | (have q := u0; refine idx_law _ rfl (.tmp 25) (.tmp 26) 201 rfl _ _ (.int .u64 c) rfl rfl (by kernel_rfl) ?_; clear u0)
        | (at_builtin; refine pushs_law _ rfl (.tmp 30) (.tmp 35) rfl w.heap.size z5 _ _ (P 2) ([c]) rfl rfl O5.out Y5.out (by have := L1.out; have := LB.out; omega) ?_; intro v6 w6 o6 B6; have O6 : Hid (Own w.heap.size w6 v6 (P 2 ++ [c])) := o6; clear o6)
        | (go_at_call 160; refine (SK.out _ HP.out.2.2 _).mono ?_; rintro e9 w5 ⟨v5, rfl, y5, B5⟩; have Y5 : Hid (Byt w5 v5 ([c])) := y5; have O5 : Hid (Own w.heap.size w5 u4 (P 2)) := own_low O4.out B5; have C5 : Hid (Below w.heap.size w w5) := C4.out.trans (B5.mono z4); have z5 := C5.out.size; clear y5 B5))
      go_roundw
      case rel => exact ⟨.inr (.inr (.inr (.inl ⟨rfl, by rw [E1.out]; exact O6.out⟩))), C5.out.trans B6⟩
      case measure => simp [intOf]
    · have hcell : wr.cell? ⟨1, 3, none⟩ = some (.int .i64 1) := TT.out 3 (by omega)
      have E1 : Hid (P 4 = P 3 ++ [0]) := HS.out 3 (by omega)
      have L1 : Hid ((P 3).length ≤ 80000) := HLN.out 3 (by omega)
      have LB : Hid (([0]).length ≤ 8) := by show _ ≤ _; simp
      have O4 : Hid (Own w.heap.size wr u4 (P 3)) := o4
      clear o4
      have u0 : (0 : Nat) = 0 := rfl
      go_wp2_with (first
        | (have q := u0; refine idx_law _ rfl (.tmp 25) (.tmp 26) 201 rfl _ _ (.int .u64 0) rfl rfl (by kernel_rfl) ?_; clear u0)
        | (at_builtin; refine pushs_law _ rfl (.tmp 30) (.tmp 35) rfl w.heap.size z5 _ _ (P 3) ([0]) rfl rfl O5.out Y5.out (by have := L1.out; have := LB.out; omega) ?_; intro v6 w6 o6 B6; have O6 : Hid (Own w.heap.size w6 v6 (P 3 ++ [0])) := o6; clear o6)
        | (go_at_call 160; refine (SK.out 0 (by omega) _).mono ?_; rintro e9 w5 ⟨v5, rfl, y5, B5⟩; have Y5 : Hid (Byt w5 v5 ([0])) := y5; have O5 : Hid (Own w.heap.size w5 u4 (P 3)) := own_low O4.out B5; have C5 : Hid (Below w.heap.size w w5) := C4.out.trans (B5.mono z4); have z5 := C5.out.size; clear y5 B5))
      go_roundw
      case rel => exact ⟨.inr (.inr (.inr (.inr (.inl ⟨rfl, by rw [E1.out]; exact O6.out⟩)))), C5.out.trans B6⟩
      case measure => simp [intOf]
    · have hcell : wr.cell? ⟨1, 4, none⟩ = some (.int .i64 4) := TT.out 4 (by omega)
      have E1 : Hid (P 5 = P 4 ++ be l 4) := HS.out 4 (by omega)
      have L1 : Hid ((P 4).length ≤ 80000) := HLN.out 4 (by omega)
      have LB : Hid ((be l 4).length ≤ 8) := by show _ ≤ _; simp [be_len]
      have O4 : Hid (Own w.heap.size wr u4 (P 4)) := o4
      clear o4
      have u0 : (0 : Nat) = 0 := rfl
      go_wp2_with (first
        | (have q := u0; refine idx_law _ rfl (.tmp 25) (.tmp 26) 201 rfl _ _ (.int .u64 l) rfl rfl (by kernel_rfl) ?_; clear u0)
        | (at_builtin; refine pushs_law _ rfl (.tmp 30) (.tmp 35) rfl w.heap.size z5 _ _ (P 4) (be l 4) rfl rfl O5.out Y5.out (by have := L1.out; have := LB.out; omega) ?_; intro v6 w6 o6 B6; have O6 : Hid (Own w.heap.size w6 v6 (P 4 ++ be l 4)) := o6; clear o6)
        | (go_at_call 160; refine (S4.out _).mono ?_; rintro e9 w5 ⟨v5, rfl, y5, B5⟩; have Y5 : Hid (Byt w5 v5 (be l 4)) := y5; have O5 : Hid (Own w.heap.size w5 u4 (P 4)) := own_low O4.out B5; have C5 : Hid (Below w.heap.size w w5) := C4.out.trans (B5.mono z4); have z5 := C5.out.size; clear y5 B5))
      go_roundw
      case rel => exact ⟨.inr (.inr (.inr (.inr (.inr (.inl ⟨rfl, by rw [E1.out]; exact O6.out⟩))))), C5.out.trans B6⟩
      case measure => simp [intOf]
    · have hcell : wr.cell? ⟨1, 5, none⟩ = some (.int .i64 8) := TT.out 5 (by omega)
      have E1 : Hid (P 6 = P 5 ++ be e 8) := HS.out 5 (by omega)
      have L1 : Hid ((P 5).length ≤ 80000) := HLN.out 5 (by omega)
      have LB : Hid ((be e 8).length ≤ 8) := by show _ ≤ _; simp [be_len]
      have O4 : Hid (Own w.heap.size wr u4 (P 5)) := o4
      clear o4
      have u0 : (0 : Nat) = 0 := rfl
      go_wp2_with (first
        | (have q := u0; refine idx_law _ rfl (.tmp 25) (.tmp 26) 201 rfl _ _ (.int .u64 e) rfl rfl (by kernel_rfl) ?_; clear u0)
        | (at_builtin; refine pushs_law _ rfl (.tmp 30) (.tmp 35) rfl w.heap.size z5 _ _ (P 5) (be e 8) rfl rfl O5.out Y5.out (by have := L1.out; have := LB.out; omega) ?_; intro v6 w6 o6 B6; have O6 : Hid (Own w.heap.size w6 v6 (P 5 ++ be e 8)) := o6; clear o6)
        | (go_at_call 160; refine (S8.out _ H8.out.1 _).mono ?_; rintro e9 w5 ⟨v5, rfl, y5, B5⟩; have Y5 : Hid (Byt w5 v5 (be e 8)) := y5; have O5 : Hid (Own w.heap.size w5 u4 (P 5)) := own_low O4.out B5; have C5 : Hid (Below w.heap.size w w5) := C4.out.trans (B5.mono z4); have z5 := C5.out.size; clear y5 B5))
      go_roundw
      case rel => exact ⟨.inr (.inr (.inr (.inr (.inr (.inr (.inl ⟨rfl, by rw [E1.out]; exact O6.out⟩)))))), C5.out.trans B6⟩
      case measure => simp [intOf]
    · have hcell : wr.cell? ⟨1, 6, none⟩ = some (.int .i64 8) := TT.out 6 (by omega)
      have E1 : Hid (P 7 = P 6 ++ be t 8) := HS.out 6 (by omega)
      have L1 : Hid ((P 6).length ≤ 80000) := HLN.out 6 (by omega)
      have LB : Hid ((be t 8).length ≤ 8) := by show _ ≤ _; simp [be_len]
      have O4 : Hid (Own w.heap.size wr u4 (P 6)) := o4
      clear o4
      have u0 : (0 : Nat) = 0 := rfl
      go_wp2_with (first
        | (have q := u0; refine idx_law _ rfl (.tmp 25) (.tmp 26) 201 rfl _ _ (.int .u64 t) rfl rfl (by kernel_rfl) ?_; clear u0)
        | (at_builtin; refine pushs_law _ rfl (.tmp 30) (.tmp 35) rfl w.heap.size z5 _ _ (P 6) (be t 8) rfl rfl O5.out Y5.out (by have := L1.out; have := LB.out; omega) ?_; intro v6 w6 o6 B6; have O6 : Hid (Own w.heap.size w6 v6 (P 6 ++ be t 8)) := o6; clear o6)
        | (go_at_call 160; refine (S8.out _ H8.out.2 _).mono ?_; rintro e9 w5 ⟨v5, rfl, y5, B5⟩; have Y5 : Hid (Byt w5 v5 (be t 8)) := y5; have O5 : Hid (Own w.heap.size w5 u4 (P 6)) := own_low O4.out B5; have C5 : Hid (Below w.heap.size w w5) := C4.out.trans (B5.mono z4); have z5 := C5.out.size; clear y5 B5))
      go_roundw
      case rel => exact ⟨.inr (.inr (.inr (.inr (.inr (.inr (.inr (⟨rfl, by rw [E1.out]; exact O6.out⟩))))))), C5.out.trans B6⟩
      case measure => simp [intOf]
    · have O4 : Hid (Own w.heap.size wr u4 (P 7)) := o4
      rw [HE.out] at O4
      clear o4
      go_wp2
      go_ret2
      exact ⟨_, rfl, O4.out, C4.out⟩
end Go.Proofs.YtakibiigcdgohaaGreatDoor.he
namespace Go.Proofs.YtakibiigcdgohaaGreatDoor.he
open Go.RowKit Go.Proofs.YtakibiigcdgohaaGreatDoor.fa
set_option maxRecDepth 20000
theorem load_lawC {ops : Array Oper} {rest : List Oper} {a : Act} {Q : Exit → Act → World → Prop} {d : Option Tmp} {x : Operand} {t ty : TypeId} {pos : String} {af : Array Edge} {gd : Option (Nat × Bool)} (w : World) (hw : Region.wanted ⟨d, Op.load t x, ty, pos, af, gd⟩ (yielded ops a.tmps) = true) (cs : List Value) (b p : Nat) (hx : a.eval x = .pointer (some ⟨b, p, none⟩)) (h : w.rangeAt b p cs) (ht : Rowy t cs.length)
    (hK : wpList Tryz.prog ops Q rest (a.put d (.agg cs.toArray)) w) : wpList Tryz.prog ops Q (⟨d, Op.load t x, ty, pos, af, gd⟩ :: rest) a w := by
  refine wpList_step fun K hK' => ?_
  rw [if_pos hw]
  unfold Oper.wp execOp
  simp only [hx, Sem.run_bind, Result.andThen_ok, load_cells ht h]
  exact hK' _ _ hK
theorem num_one (xs : List Int) (i : Nat) (h : i < xs.length) (ha : AllB xs) : num (last8 (sub xs i (i + 1))) = gb xs i := by
  have l := sub_len xs i (i + 1) (by omega)
  have g := sub_gb xs i (i + 1) 0 (by omega)
  have b := ha i
  generalize sub xs i (i + 1) = ys at *
  match ys, l with
  | [y], _ =>
    have : y = gb xs i := g
    subst this
    show (0 * 256) % 18446744073709551616 + gb xs i = gb xs i
    omega
  | [], l => simp at l
  | _ :: _ :: _, l => simp at l
theorem in_any (v : Value) (xs : List Int) (w : World) (hb : Byt w v xs) (hl : xs.length = 24) (hT : Tab w) :
    Calls Tryz.prog 128 #[v] w fun x w' => x = .returned (.agg (nv [gb xs 0, gb xs 1, gb xs 2, gb xs 3, ql xs, qe xs, qt xs]).toArray) ∧ Below w.heap.size w w' := by
  have HB : Hid (Byt w v xs) := hb
  have HL : Hid (xs.length = 24) := hl
  have HT : Hid (Tab w) := hT
  have hA := hb.all
  have N0 : Hid (num (last8 (sub xs 0 1)) = gb xs 0) := num_one xs 0 (by omega) hA
  have N1 : Hid (num (last8 (sub xs 1 2)) = gb xs 1) := num_one xs 1 (by omega) hA
  have N2 : Hid (num (last8 (sub xs 2 3)) = gb xs 2) := num_one xs 2 (by omega) hA
  have N3 : Hid (num (last8 (sub xs 3 4)) = gb xs 3) := num_one xs 3 (by omega) hA
  have N4 : Hid (num (last8 (sub xs 4 8)) = ql xs) := rfl
  have N5 : Hid (num (last8 (sub xs 8 16)) = qe xs) := rfl
  have N6 : Hid (num (last8 (sub xs 16 24)) = qt xs) := rfl
  generalize gb xs 0 = n0 at *
  generalize gb xs 1 = n1 at *
  generalize gb xs 2 = n2 at *
  generalize gb xs 3 = n3 at *
  generalize ql xs = n4 at *
  generalize qe xs = n5 at *
  generalize qt xs = n6 at *
  clear hb hl hT hA
  have t0 := tR
  go_enter Tryz.func128, Tryz.ntmps128
  go_wp2_with (first
    | (have q2 := t2; refine load_lawC _ rfl (([1, 1, 1, 1, 4, 8, 8] : List Int).map (Value.int .i64)) 1 0 rfl (HT2.out.range) rowy_sizes ?_; clear t2)
    | (have q1 := t1; refine new_lawC _ (nv [0, 0, 0, 0, 0, 0, 0]) zero_nums ?_; intro w2 V2 B2 s2; have HG : Hid (Vr w2 w1.heap.size (nv [0, 0, 0, 0, 0, 0, 0])) := V2; have HR : Hid (Vr w2 w.heap.size (nv [0, 0, 0, 0, 0, 0, 0])) := HR.out.below B2 s1; have C2 : Below w.heap.size w w2 := B1.trans (B2.mono (by omega)); have HT2 : Hid (Tab w2) := HT.out.below C2; clear V2 B2 t1; have t2 := tR)
    | (have q0 := t0; refine new_lawC _ (nv [0, 0, 0, 0, 0, 0, 0]) zero_nums ?_; intro w1 V1 B1 s1; have HR : Hid (Vr w1 w.heap.size (nv [0, 0, 0, 0, 0, 0, 0])) := V1; clear V1 t0; have t1 := tR))
  have hne : w.heap.size ≠ w1.heap.size := by omega
  go_loopw [8, 4] (fun i z wr => ((i = .int .i64 0 ∧ z = .int .i64 0 ∧ Vr wr w1.heap.size (nv [0, 0, 0, 0, 0, 0, 0])) ∨ (i = .int .i64 1 ∧ z = .int .i64 1 ∧ Vr wr w1.heap.size (nv [n0, 0, 0, 0, 0, 0, 0])) ∨ (i = .int .i64 2 ∧ z = .int .i64 2 ∧ Vr wr w1.heap.size (nv [n0, n1, 0, 0, 0, 0, 0])) ∨ (i = .int .i64 3 ∧ z = .int .i64 3 ∧ Vr wr w1.heap.size (nv [n0, n1, n2, 0, 0, 0, 0])) ∨ (i = .int .i64 4 ∧ z = .int .i64 4 ∧ Vr wr w1.heap.size (nv [n0, n1, n2, n3, 0, 0, 0])) ∨ (i = .int .i64 5 ∧ z = .int .i64 8 ∧ Vr wr w1.heap.size (nv [n0, n1, n2, n3, n4, 0, 0])) ∨ (i = .int .i64 6 ∧ z = .int .i64 16 ∧ Vr wr w1.heap.size (nv [n0, n1, n2, n3, n4, n5, 0])) ∨ (i = .int .i64 7 ∧ z = .int .i64 24 ∧ Vr wr w1.heap.size (nv [n0, n1, n2, n3, n4, n5, n6]))) ∧ Vr wr w.heap.size (nv [0, 0, 0, 0, 0, 0, 0]) ∧ Below w.heap.size w wr) (fun i _ _ => 7 - (intOf i).toNat)
  case atStart => exact ⟨.inl ⟨rfl, rfl, HG.out⟩, HR.out, C2⟩
  case round =>
    clear HG HR C2 HT2
    obtain ⟨hrel, hr, b4⟩ := hrel
    have HR : Hid (Vr wr w.heap.size (nv [0, 0, 0, 0, 0, 0, 0])) := hr
    have C4 : Hid (Below w.heap.size w wr) := b4
    have Y4 : Hid (Byt wr v xs) := HB.out.below b4
    clear hr b4
    obtain ⟨rfl, rfl, g4⟩ | ⟨rfl, rfl, g4⟩ | ⟨rfl, rfl, g4⟩ | ⟨rfl, rfl, g4⟩ | ⟨rfl, rfl, g4⟩ | ⟨rfl, rfl, g4⟩ | ⟨rfl, rfl, g4⟩ | ⟨rfl, rfl, g4⟩ := hrel
    · have c1 := g4.cell 0 _ rfl
      have c2 := g4.free 0 (by simp [nv])
      have G5 : Hid (Vr (wr.setCell ⟨w1.heap.size, 0, none⟩ (.int .u64 n0)) w1.heap.size (nv [n0, 0, 0, 0, 0, 0, 0])) := g4.set 0 (by simp [nv]) (.int .u64 n0)
      clear g4
      have u0 : (0 : Nat) = 0 := rfl
      go_wp2_with (first
        | (have q := u2; go_at_call 156; refine (num_any _ _ _ Y5.out).mono ?_; rintro e9 w9 ⟨rfl, hw⟩; obtain rfl := hw.symm; rw [N0.out]; clear u2)
        | (have q := u1; refine cut_part _ rfl (.tmp 13) (.tmp 14) (.tmp 17) rfl _ xs _ _ 0 1 rfl rfl rfl rfl rfl (by omega) (by have := HL.out; omega) Y4.out ?_; intro v5 y5; have Y5 : Hid (Byt wr v5 (sub xs 0 1)) := y5; clear y5 u1; have u2 : (0 : Nat) = 0 := rfl)
        | (have q := u0; refine idx_law _ rfl (.tmp 7) (.tmp 8) 215 rfl _ _ (.int .i64 1) rfl rfl (by kernel_rfl) ?_; clear u0; have u1 : (0 : Nat) = 0 := rfl))
      go_roundw
      case rel => exact ⟨.inr (.inl ⟨rfl, rfl, G5.out⟩), HR.out.other _ hne, C4.out.setCell (p := ⟨w1.heap.size, 0, none⟩) (by show _ ≤ w1.heap.size; omega) _⟩
      case measure => simp [intOf]
    · have c1 := g4.cell 1 _ rfl
      have c2 := g4.free 1 (by simp [nv])
      have G5 : Hid (Vr (wr.setCell ⟨w1.heap.size, 1, none⟩ (.int .u64 n1)) w1.heap.size (nv [n0, n1, 0, 0, 0, 0, 0])) := g4.set 1 (by simp [nv]) (.int .u64 n1)
      clear g4
      have u0 : (0 : Nat) = 0 := rfl
      go_wp2_with (first
        | (have q := u2; go_at_call 156; refine (num_any _ _ _ Y5.out).mono ?_; rintro e9 w9 ⟨rfl, hw⟩; obtain rfl := hw.symm; rw [N1.out]; clear u2)
        | (have q := u1; refine cut_part _ rfl (.tmp 13) (.tmp 14) (.tmp 17) rfl _ xs _ _ 1 2 rfl rfl rfl rfl rfl (by omega) (by have := HL.out; omega) Y4.out ?_; intro v5 y5; have Y5 : Hid (Byt wr v5 (sub xs 1 2)) := y5; clear y5 u1; have u2 : (0 : Nat) = 0 := rfl)
        | (have q := u0; refine idx_law _ rfl (.tmp 7) (.tmp 8) 215 rfl _ _ (.int .i64 1) rfl rfl (by kernel_rfl) ?_; clear u0; have u1 : (0 : Nat) = 0 := rfl))
      go_roundw
      case rel => exact ⟨.inr (.inr (.inl ⟨rfl, rfl, G5.out⟩)), HR.out.other _ hne, C4.out.setCell (p := ⟨w1.heap.size, 1, none⟩) (by show _ ≤ w1.heap.size; omega) _⟩
      case measure => simp [intOf]
    · have c1 := g4.cell 2 _ rfl
      have c2 := g4.free 2 (by simp [nv])
      have G5 : Hid (Vr (wr.setCell ⟨w1.heap.size, 2, none⟩ (.int .u64 n2)) w1.heap.size (nv [n0, n1, n2, 0, 0, 0, 0])) := g4.set 2 (by simp [nv]) (.int .u64 n2)
      clear g4
      have u0 : (0 : Nat) = 0 := rfl
      go_wp2_with (first
        | (have q := u2; go_at_call 156; refine (num_any _ _ _ Y5.out).mono ?_; rintro e9 w9 ⟨rfl, hw⟩; obtain rfl := hw.symm; rw [N2.out]; clear u2)
        | (have q := u1; refine cut_part _ rfl (.tmp 13) (.tmp 14) (.tmp 17) rfl _ xs _ _ 2 3 rfl rfl rfl rfl rfl (by omega) (by have := HL.out; omega) Y4.out ?_; intro v5 y5; have Y5 : Hid (Byt wr v5 (sub xs 2 3)) := y5; clear y5 u1; have u2 : (0 : Nat) = 0 := rfl)
        | (have q := u0; refine idx_law _ rfl (.tmp 7) (.tmp 8) 215 rfl _ _ (.int .i64 1) rfl rfl (by kernel_rfl) ?_; clear u0; have u1 : (0 : Nat) = 0 := rfl))
      go_roundw
      case rel => exact ⟨.inr (.inr (.inr (.inl ⟨rfl, rfl, G5.out⟩))), HR.out.other _ hne, C4.out.setCell (p := ⟨w1.heap.size, 2, none⟩) (by show _ ≤ w1.heap.size; omega) _⟩
      case measure => simp [intOf]
    · have c1 := g4.cell 3 _ rfl
      have c2 := g4.free 3 (by simp [nv])
      have G5 : Hid (Vr (wr.setCell ⟨w1.heap.size, 3, none⟩ (.int .u64 n3)) w1.heap.size (nv [n0, n1, n2, n3, 0, 0, 0])) := g4.set 3 (by simp [nv]) (.int .u64 n3)
      clear g4
      have u0 : (0 : Nat) = 0 := rfl
      go_wp2_with (first
        | (have q := u2; go_at_call 156; refine (num_any _ _ _ Y5.out).mono ?_; rintro e9 w9 ⟨rfl, hw⟩; obtain rfl := hw.symm; rw [N3.out]; clear u2)
        | (have q := u1; refine cut_part _ rfl (.tmp 13) (.tmp 14) (.tmp 17) rfl _ xs _ _ 3 4 rfl rfl rfl rfl rfl (by omega) (by have := HL.out; omega) Y4.out ?_; intro v5 y5; have Y5 : Hid (Byt wr v5 (sub xs 3 4)) := y5; clear y5 u1; have u2 : (0 : Nat) = 0 := rfl)
        | (have q := u0; refine idx_law _ rfl (.tmp 7) (.tmp 8) 215 rfl _ _ (.int .i64 1) rfl rfl (by kernel_rfl) ?_; clear u0; have u1 : (0 : Nat) = 0 := rfl))
      go_roundw
      case rel => exact ⟨.inr (.inr (.inr (.inr (.inl ⟨rfl, rfl, G5.out⟩)))), HR.out.other _ hne, C4.out.setCell (p := ⟨w1.heap.size, 3, none⟩) (by show _ ≤ w1.heap.size; omega) _⟩
      case measure => simp [intOf]
    · have c1 := g4.cell 4 _ rfl
      have c2 := g4.free 4 (by simp [nv])
      have G5 : Hid (Vr (wr.setCell ⟨w1.heap.size, 4, none⟩ (.int .u64 n4)) w1.heap.size (nv [n0, n1, n2, n3, n4, 0, 0])) := g4.set 4 (by simp [nv]) (.int .u64 n4)
      clear g4
      have u0 : (0 : Nat) = 0 := rfl
      go_wp2_with (first
        | (have q := u2; go_at_call 156; refine (num_any _ _ _ Y5.out).mono ?_; rintro e9 w9 ⟨rfl, hw⟩; obtain rfl := hw.symm; rw [N4.out]; clear u2)
        | (have q := u1; refine cut_part _ rfl (.tmp 13) (.tmp 14) (.tmp 17) rfl _ xs _ _ 4 8 rfl rfl rfl rfl rfl (by omega) (by have := HL.out; omega) Y4.out ?_; intro v5 y5; have Y5 : Hid (Byt wr v5 (sub xs 4 8)) := y5; clear y5 u1; have u2 : (0 : Nat) = 0 := rfl)
        | (have q := u0; refine idx_law _ rfl (.tmp 7) (.tmp 8) 215 rfl _ _ (.int .i64 4) rfl rfl (by kernel_rfl) ?_; clear u0; have u1 : (0 : Nat) = 0 := rfl))
      go_roundw
      case rel => exact ⟨.inr (.inr (.inr (.inr (.inr (.inl ⟨rfl, rfl, G5.out⟩))))), HR.out.other _ hne, C4.out.setCell (p := ⟨w1.heap.size, 4, none⟩) (by show _ ≤ w1.heap.size; omega) _⟩
      case measure => simp [intOf]
    · have c1 := g4.cell 5 _ rfl
      have c2 := g4.free 5 (by simp [nv])
      have G5 : Hid (Vr (wr.setCell ⟨w1.heap.size, 5, none⟩ (.int .u64 n5)) w1.heap.size (nv [n0, n1, n2, n3, n4, n5, 0])) := g4.set 5 (by simp [nv]) (.int .u64 n5)
      clear g4
      have u0 : (0 : Nat) = 0 := rfl
      go_wp2_with (first
        | (have q := u2; go_at_call 156; refine (num_any _ _ _ Y5.out).mono ?_; rintro e9 w9 ⟨rfl, hw⟩; obtain rfl := hw.symm; rw [N5.out]; clear u2)
        | (have q := u1; refine cut_part _ rfl (.tmp 13) (.tmp 14) (.tmp 17) rfl _ xs _ _ 8 16 rfl rfl rfl rfl rfl (by omega) (by have := HL.out; omega) Y4.out ?_; intro v5 y5; have Y5 : Hid (Byt wr v5 (sub xs 8 16)) := y5; clear y5 u1; have u2 : (0 : Nat) = 0 := rfl)
        | (have q := u0; refine idx_law _ rfl (.tmp 7) (.tmp 8) 215 rfl _ _ (.int .i64 8) rfl rfl (by kernel_rfl) ?_; clear u0; have u1 : (0 : Nat) = 0 := rfl))
      go_roundw
      case rel => exact ⟨.inr (.inr (.inr (.inr (.inr (.inr (.inl ⟨rfl, rfl, G5.out⟩)))))), HR.out.other _ hne, C4.out.setCell (p := ⟨w1.heap.size, 5, none⟩) (by show _ ≤ w1.heap.size; omega) _⟩
      case measure => simp [intOf]
    · have c1 := g4.cell 6 _ rfl
      have c2 := g4.free 6 (by simp [nv])
      have G5 : Hid (Vr (wr.setCell ⟨w1.heap.size, 6, none⟩ (.int .u64 n6)) w1.heap.size (nv [n0, n1, n2, n3, n4, n5, n6])) := g4.set 6 (by simp [nv]) (.int .u64 n6)
      clear g4
      have u0 : (0 : Nat) = 0 := rfl
      go_wp2_with (first
        | (have q := u2; go_at_call 156; refine (num_any _ _ _ Y5.out).mono ?_; rintro e9 w9 ⟨rfl, hw⟩; obtain rfl := hw.symm; rw [N6.out]; clear u2)
        | (have q := u1; refine cut_part _ rfl (.tmp 13) (.tmp 14) (.tmp 17) rfl _ xs _ _ 16 24 rfl rfl rfl rfl rfl (by omega) (by have := HL.out; omega) Y4.out ?_; intro v5 y5; have Y5 : Hid (Byt wr v5 (sub xs 16 24)) := y5; clear y5 u1; have u2 : (0 : Nat) = 0 := rfl)
        | (have q := u0; refine idx_law _ rfl (.tmp 7) (.tmp 8) 215 rfl _ _ (.int .i64 8) rfl rfl (by kernel_rfl) ?_; clear u0; have u1 : (0 : Nat) = 0 := rfl))
      go_roundw
      case rel => exact ⟨.inr (.inr (.inr (.inr (.inr (.inr (.inr (⟨rfl, rfl, G5.out⟩))))))), HR.out.other _ hne, C4.out.setCell (p := ⟨w1.heap.size, 6, none⟩) (by show _ ≤ w1.heap.size; omega) _⟩
      case measure => simp [intOf]
    · have G4 : Hid (Vr wr w1.heap.size (nv [n0, n1, n2, n3, n4, n5, n6])) := g4
      clear g4
      have u0 : (0 : Nat) = 0 := rfl
      go_wp2_with (first
        | (have q := u1; refine store_lawC _ (nv [n0, n1, n2, n3, n4, n5, n6]) w.heap.size 0 rfl rfl HR.out.2 rowy_nums.2 (nv_one _) ?_; intro w5 E5 R5 T5 B5; have HQ : Hid (w5.rangeAt w.heap.size 0 (nv [n0, n1, n2, n3, n4, n5, n6])) := R5; clear u1 E5 R5 T5)
        | (have q := u0; refine load_lawC _ rfl (nv [n0, n1, n2, n3, n4, n5, n6]) w1.heap.size 0 rfl G4.out.1 rowy_nums ?_; clear u0; have u1 : (0 : Nat) = 0 := rfl))
      refine bodyPost_ret (v := .agg (nv [n0, n1, n2, n3, n4, n5, n6]).toArray) (results_c rfl _ _ w.heap.size _ rowy_nums rfl HQ.out) rfl ⟨rfl, ?_⟩
      exact C4.out.trans B5
end Go.Proofs.YtakibiigcdgohaaGreatDoor.he
namespace Go.Proofs.YtakibiigcdgohaaGreatDoor
open Go.RowKit
set_option maxRecDepth 20000
theorem not_same {xs ys : List Int} {k : Nat} (h : gb xs k ≠ gb ys k) : decide (xs = ys) = false := by
  simp only [decide_eq_false_iff_not]; intro e; exact h (by rw [e])
theorem same_any (w : World) (va vb : Value) (xs ys : List Int) (ha : Byt w va xs) (hb : Byt w vb ys) :
    Calls Tryz.prog 15 #[va, vb] w fun e w' => e = .returned (.bool (decide (xs = ys))) ∧ ∃ n, w' = w.drewN n := by
  obtain ⟨ao, ca, rfl, ha1, ha2, ha3, -, ha5⟩ := ha
  obtain ⟨bo, cb, rfl, hb1, hb2, hb3, -, hb5⟩ := hb
  by_cases hl : xs.length = ys.length
  · have HL : Hid (xs.length = ys.length) := hl
    have HB5 : Hid (0 < xs.length → ∃ b off, bo = some ⟨b, off, none⟩ ∧ ∀ t, t < xs.length → w.cell? ⟨b, off + t, none⟩ = some (.int .u8 (gb ys t))) := by
      rw [hl]; exact hb5
    have HA5 : Hid (0 < xs.length → ∃ b off, ao = some ⟨b, off, none⟩ ∧ ∀ t, t < xs.length → w.cell? ⟨b, off + t, none⟩ = some (.int .u8 (gb xs t))) := ha5
    clear hb5 ha5
    rw [← hl] at hb1 ⊢
    clear hl
    have hm : xs.length ≤ 9223372036854775807 := by omega
    go_enter Tryz.func15, Tryz.ntmps15
    go_wp2
    go_loopw [5] (fun i wr => ∃ k n : Nat, k ≤ xs.length ∧ i = .int .i64 k ∧ wr = w.drewN n ∧ Hid (∀ t, t < k → gb xs t = gb ys t)) (fun i _ => xs.length - (intOf i).toNat)
    case atStart => exact ⟨0, 0, Nat.zero_le _, rfl, rfl, fun t ht => by omega⟩
    case round =>
      obtain ⟨k, n, hk, rfl, rfl, heq⟩ := hrel
      by_cases hlt : k < xs.length
      · obtain ⟨b, off, rfl, hca⟩ := HA5.out (by omega)
        obtain ⟨b', off', rfl, hcb⟩ := HB5.out (by omega)
        have c1 : w.cell? ⟨b, off + k, none⟩ = some (.int .u8 (gb xs k)) := hca k hlt
        have c2 : w.cell? ⟨b', off' + k, none⟩ = some (.int .u8 (gb ys k)) := hcb k hlt
        have lk : (k : Int) < (xs.length : Int) := by omega
        clear hca hcb
        go_wp2
        go_quiet (fail)
        go_wp2
        · have hne : (gb xs k != gb ys k) = true := by assumption
          go_ret
          refine ⟨?_, n + nq, World.drewN_drewN ..⟩
          have : decide (xs = ys) = false := not_same (by simpa using hne)
          rw [this]; rfl
        · have hne : (gb xs k != gb ys k) = false := by assumption
          go_roundw
          case rel => exact ⟨k + 1, n + nq, by omega, by go_num, rfl, fun t ht => if h : t < k then heq.out t h else by
            have : t = k := by omega
            subst this; simpa using hne⟩
          case measure => simp [intOf]; omega
      · go_wp2
        go_ret
        refine ⟨?_, n, rfl⟩
        have : decide (xs = ys) = true := decide_eq_true (ext_gb HL.out fun t ht => heq.out t (by omega))
        rw [this]; rfl
  · have : decide (xs = ys) = false := by simp only [decide_eq_false_iff_not]; intro e; exact hl (by rw [e])
    rw [this]
    go_enter Tryz.func15, Tryz.ntmps15
    go_wp2
    go_ret
    exact ⟨rfl, 0, rfl⟩
end Go.Proofs.YtakibiigcdgohaaGreatDoor
namespace Go.Proofs.YtakibiigcdgohaaGreatDoor.he
open Go.RowKit Go.Proofs.YtakibiigcdgohaaGreatDoor.fa
set_option maxRecDepth 20000
def sl : Value → Nat → Nat → Value
  | .slice ao _ cap, l, h => sliced ao l h cap 1
  | _, _, _ => undef
theorem sl_byt {w : World} {v : Value} {xs : List Int} (hb : Byt w v xs) (l h : Nat) (hl : l ≤ h) (hh : h ≤ xs.length) : Byt w (sl v l h) ((xs.take h).drop l) := by
  obtain ⟨ao, cap, rfl, hc, hb'⟩ := byt_cut hb l h hl hh
  exact hb'
theorem sl_to {w : World} {v : Value} {xs : List Int} (hb : Byt w v xs) (h : Nat) (hh : h ≤ xs.length) : Byt w (sl v 0 h) (xs.take h) := by
  have := sl_byt hb 0 h (Nat.zero_le _) hh
  rwa [List.drop_zero] at this
theorem sl_from {w : World} {v : Value} {xs : List Int} (hb : Byt w v xs) (l : Nat) (hl : l ≤ xs.length) : Byt w (sl v l xs.length) (xs.drop l) := by
  have := sl_byt hb l xs.length hl (Nat.le_refl _)
  rwa [List.take_length] at this
theorem sl_sub {w : World} {v : Value} {xs : List Int} (hb : Byt w v xs) (l h : Nat) (hl : l ≤ h) (hh : h ≤ xs.length) : Byt w (sl v l h) (sub xs l h) := sl_byt hb l h hl hh
theorem byt_form {w : World} {v : Value} {xs : List Int} {n : Nat} (h : Byt w v xs) (hn : xs.length = n) : ∃ ao cap, v = .slice ao n cap := by
  obtain ⟨ao, cap, e, -⟩ := h
  rw [hn] at e
  exact ⟨ao, cap, e⟩
theorem byt_drawn {w : World} {v : Value} {xs : List Int} (h : Byt w v xs) (m : Nat) : Byt (w.drewN m) v xs := h
theorem below_drawn {B : Nat} {w w' : World} (h : Below B w w') (m : Nat) : Below B w (w'.drewN m) := ⟨h.os, h.tape, h.output, h.size, fun k hk => h.block k hk⟩
section
variable {ev : Operand → Value} {o : Oper}
theorem exec_to (s x : Operand) (hop : o.op = Op.slice 35 s none (some x) none) (v : Value) (xs : List Int) (w0 : World) (hb : Byt w0 v xs) (h : Nat) (hs : ev s = v) (hx : ev x = .int .i64 (h : Int)) (hh : h ≤ xs.length) (w : World) : (execOp ev o).run Tryz.prog w = .ok (.value (sl v 0 h)) w := by
  obtain ⟨ao, cap, rfl, hc, -⟩ := byt_cut hb 0 h (Nat.zero_le _) hh
  have hrun := run_slice_h (P := Tryz.prog) w 35 ao xs.length cap und_bytes .i64 (h : Int) (by omega) (by omega)
  rw [elem_bytes, run_size_u8] at hrun
  simp [execOp, hop, hs, hx, run_sliceAt_slice w 35 _ _ _ _ und_bytes, hrun, Result.andThen, sl]
theorem exec_part (s x y : Operand) (hop : o.op = Op.slice 35 s (some x) (some y) none) (v : Value) (xs : List Int) (w0 : World) (hb : Byt w0 v xs) (l h : Nat) (hs : ev s = v) (hx : ev x = .int .i64 (l : Int)) (hy : ev y = .int .i64 (h : Int)) (hl : l ≤ h) (hh : h ≤ xs.length) (w : World) : (execOp ev o).run Tryz.prog w = .ok (.value (sl v l h)) w := by
  obtain ⟨ao, cap, rfl, hc, -⟩ := byt_cut hb l h hl hh
  have hrun := run_slice_lh (P := Tryz.prog) w 35 ao xs.length cap und_bytes .i64 .i64 (l : Int) (h : Int) (by omega) (by omega) (by omega)
  rw [elem_bytes, run_size_u8] at hrun
  simp [execOp, hop, hs, hx, hy, run_sliceAt_slice w 35 _ _ _ _ und_bytes, hrun, Result.andThen, sl]
theorem exec_from (s x : Operand) (hop : o.op = Op.slice 35 s (some x) none none) (v : Value) (xs : List Int) (w0 : World) (hb : Byt w0 v xs) (l n : Nat) (hs : ev s = v) (hx : ev x = .int .i64 (l : Int)) (hn : xs.length = n) (hl : l ≤ n) (w : World) : (execOp ev o).run Tryz.prog w = .ok (.value (sl v l n)) w := by
  subst hn
  obtain ⟨ao, cap, rfl, hc, -⟩ := byt_cut hb l xs.length hl (Nat.le_refl _)
  have hrun := run_slice_l (P := Tryz.prog) w 35 ao xs.length cap und_bytes .i64 (l : Int) (by omega) (by omega)
  rw [elem_bytes, run_size_u8] at hrun
  simp [execOp, hop, hs, hx, run_sliceAt_slice w 35 _ _ _ _ und_bytes, hrun, Result.andThen, sl]
theorem exec_loadN (t : TypeId) (x : Operand) (hop : o.op = Op.load t x) (p : Value) (hx : ev x = p) (v : Value) (w : World) (hr : (Instr.loadAt t p).run Tryz.prog w = .ok v w) : (execOp ev o).run Tryz.prog w = .ok (.value v) w := by
  unfold execOp
  simp only [hop, hx, Sem.run_bind, Result.andThen_ok, hr]
  rfl
end
section
variable {ops : Array Oper} {o : Oper} {a : Act} {Q : Exit → Act → World → Prop} {K : Act → World → Prop} {E : Prop}
theorem step_callW (w : World) (hw : Region.wanted o (yielded ops a.tmps) = true) (d : Option Tmp) (hd : o.dst = d) (f : FuncId) (args : Array Operand) (ats : Array TypeId) (hop : o.op = .call { callee := .value (.func f), args := args, argTypes := ats })
    (hcf : ∀ (q : Array Value) (w : World), (callFunc f q).run Tryz.prog w = .ok (.enter f q) w) (vs : Array Value) (hx : args.map a.eval = vs) (R : Value → World → Prop) (hc : Calls Tryz.prog f vs w fun e w' => ∃ v, e = .returned v ∧ R v w') (hK : ∀ v w', R v w' → K (a.put d v) w') : if Region.wanted o (yielded ops a.tmps) = true then Oper.wp Tryz.prog o a w K Q else E := by
  rw [if_pos hw]
  subst hd
  subst hx
  unfold Oper.wp
  simp only [execOp, hop]
  go_simp
  refine hc.mono ?_
  rintro e w' ⟨v, rfl, hr⟩
  exact hK v w' hr
theorem step_newC (w : World) (hg : o.guard = none) (d : Option Tmp) (hd : o.dst = d) (t : TypeId) (hop : o.op = Op.alloc t) (cs : List Value) (hz : (Tryz.prog.info? t).map (fun i => (i.zero, i.size)) = some (some (.agg cs.toArray), cs.length))
    (hK : ∀ w', Vr w' w.heap.size cs → Below w.heap.size w w' → w.heap.size < w'.heap.size → K (a.put d (.pointer (some ⟨w.heap.size, 0, none⟩))) w') : if Region.wanted o (yielded ops a.tmps) = true then Oper.wp Tryz.prog o a w K Q else E := by
  have hw : Region.wanted o (yielded ops a.tmps) = true := by simp [Region.wanted, hg]
  rw [if_pos hw]
  subst hd
  have hz' := (zero_of_info hz).1
  unfold Oper.wp
  simp [execOp, hop, Instr.alloc, hz', newVar, newRow, Value.cells, Result.andThen]
  exact hK _ (Vr.new w t cs) ((Below.refl _ _).alloc (Nat.le_refl _) _) (by simp)
theorem step_storeC (w : World) (hg : o.guard = none) (d : Option Tmp) (hd : o.dst = d) (x y : Operand) (t : TypeId) (hop : o.op = Op.store t x y) (c : Nat) (cs0 cs : List Value) (hx : a.eval x = .pointer (some ⟨c, 0, none⟩)) (hy : a.eval y = .agg cs.toArray) (hV : Vr w c cs0) (hl : cs0.length = cs.length) (hs : (Tryz.prog.info? t).map (·.size) = some cs.length) (h1 : ∀ v ∈ cs, v.oneCell' = true)
    (hK : ∀ w', Vr w' c cs → Below c w w' → K (a.put d undef) w') : if Region.wanted o (yielded ops a.tmps) = true then Oper.wp Tryz.prog o a w K Q else E := by
  have hw : Region.wanted o (yielded ops a.tmps) = true := by simp [Region.wanted, hg]
  rw [if_pos hw]
  subst hd
  have ht : w.there c 0 cs.length := by rw [← hl]; exact hV.2
  refine wp_store_mid t x y hop c 0 cs.toArray hx hy (by simpa using ht) (by simpa using hs) (all_oneCell_toArray h1) ?_
  exact hK _ ⟨World.rangeAt_setCells_same w c 0 cs ht, World.there_setCells ht c 0 _⟩ (below_cells _ (Nat.le_refl _) _ _ (Below.refl _ _))
end
theorem cell_of4 (w : World) (a b c d : Value) (t : TypeId) (k : Nat) (v : Value) (h : ([a, b, c, d] : List Value)[k]? = some v) : (w.alloc (.cells #[a, b, c, d] t)).cell? ⟨w.heap.size, k, none⟩ = some v := by
  rw [cell_of_row (w.alloc (.cells #[a, b, c, d] t)) w.heap.size k _ t (0, 0) (heap_alloc_last w _)]
  simpa using h
theorem cell_of2 (w : World) (a b : Value) (t : TypeId) (k : Nat) (v : Value) (h : ([a, b] : List Value)[k]? = some v) : (w.alloc (.cells #[a, b] t)).cell? ⟨w.heap.size, k, none⟩ = some v := by
  rw [cell_of_row (w.alloc (.cells #[a, b] t)) w.heap.size k _ t (0, 0) (heap_alloc_last w _)]
  simpa using h
theorem cat4_any (w : World) (a b c d : Value) (x y z u : List Int) (ha : Byt w a x) (hb : Byt w b y) (hc : Byt w c z) (hd : Byt w d u) (l1 : x.length ≤ 10000) (l2 : y.length ≤ 10000) (l3 : z.length ≤ 10000) (l4 : u.length ≤ 10000) (hp : 0 < x.length) :
    Calls Tryz.prog 113 #[.slice (some ⟨w.heap.size, 0, none⟩) 4 4] (w.alloc (.cells #[a, b, c, d] 35)) fun e w' => ∃ r, e = .returned r ∧ Own w.heap.size w' r (x ++ (y ++ (z ++ u))) ∧ Below w.heap.size w w' := by
  have B0 : Below w.heap.size w (w.alloc (.cells #[a, b, c, d] 35)) := (Below.refl _ _).alloc (Nat.le_refl _) _
  have e : cats [x, y, z, u] 4 = x ++ (y ++ (z ++ u)) := by simp [cats]
  have := concat_any w.heap.size 4 (fun k => ([a, b, c, d] : List Value).getD k undef) [x, y, z, u] _ rfl (by omega) (fun k hk => by
    match k, hk with
    | 0, _ => exact ha.below B0
    | 1, _ => exact hb.below B0
    | 2, _ => exact hc.below B0
    | 3, _ => exact hd.below B0) (fun k hk => by
    have hk : k < 4 := hk
    match k, hk with
    | 0, _ => exact l1
    | 1, _ => exact l2
    | 2, _ => exact l3
    | 3, _ => exact l4) (by rw [e]; simp; omega) (fun k hk => cell_of4 w a b c d 35 k _ (by
    match k, hk with
    | 0, _ => rfl
    | 1, _ => rfl
    | 2, _ => rfl
    | 3, _ => rfl))
  rw [e] at this
  refine this.mono ?_
  rintro q w' ⟨r, rfl, o, B⟩
  exact ⟨r, rfl, own_less o B0.size, B0.trans (B.mono B0.size)⟩
theorem cat2_any (w : World) (a b : Value) (x y : List Int) (ha : Byt w a x) (hb : Byt w b y) (l1 : x.length ≤ 10000) (l2 : y.length ≤ 10000) (hp : 0 < x.length) :
    Calls Tryz.prog 113 #[.slice (some ⟨w.heap.size, 0, none⟩) 2 2] (w.alloc (.cells #[a, b] 35)) fun e w' => ∃ r, e = .returned r ∧ Own w.heap.size w' r (x ++ y) ∧ Below w.heap.size w w' := by
  have B0 : Below w.heap.size w (w.alloc (.cells #[a, b] 35)) := (Below.refl _ _).alloc (Nat.le_refl _) _
  have e : cats [x, y] 2 = x ++ y := by simp [cats]
  have := concat_any w.heap.size 2 (fun k => ([a, b] : List Value).getD k undef) [x, y] _ rfl (by omega) (fun k hk => by
    match k, hk with
    | 0, _ => exact ha.below B0
    | 1, _ => exact hb.below B0) (fun k hk => by
    have hk : k < 2 := hk
    match k, hk with
    | 0, _ => exact l1
    | 1, _ => exact l2) (by rw [e]; simp; omega) (fun k hk => cell_of2 w a b 35 k _ (by
    match k, hk with
    | 0, _ => rfl
    | 1, _ => rfl))
  rw [e] at this
  refine this.mono ?_
  rintro q w' ⟨r, rfl, o, B⟩
  exact ⟨r, rfl, own_less o B0.size, B0.trans (B.mono B0.size)⟩
end Go.Proofs.YtakibiigcdgohaaGreatDoor.he
