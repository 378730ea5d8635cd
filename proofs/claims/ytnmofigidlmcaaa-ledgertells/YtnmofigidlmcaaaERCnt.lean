/- What the reference's Held, Bads, Leaks and Spread answer. No claim of its own. -/
import Derived.Test.YtnmofigidlmcaaaERAsk
namespace Go.Proofs.Ytnmofigidlmcaaa.le
open Go.RowKit Go.Proofs.Ytnmofigidlmcaaa.he
set_option maxRecDepth 20000

theorem cn_zero {P : Nat → Bool} : ∀ {k : Nat}, (∀ j, j < k → P j = false) → cn P k = 0
  | 0, _ => rfl
  | k + 1, h => by
    show cn P k + (if P k then 1 else 0) = 0
    rw [cn_zero (k := k) fun j hj => h j (by omega), h k (by omega)]; rfl
theorem cn_pos {P : Nat → Bool} {j : Nat} (hp : P j = true) : ∀ {k : Nat}, j < k → 0 < cn P k
  | k + 1, h => by
    show 0 < cn P k + (if P k then 1 else 0)
    by_cases e : j = k
    · subst e; rw [hp]; simp
    · have := cn_pos (k := k) hp (by omega); omega
set_option maxHeartbeats 2000000 in
theorem rbads_any (r : Nat) (v : Value) (n : Nat) (f : Nat → Bk) (w : World) (h : Rr r w v n f) (hn : n ≤ 64) : Calls Try.prog 27 #[v] w fun e w' => e = .returned (.int .i64 (cn (Bf f) n)) ∧ w' = w := by
  obtain ⟨ao, cap, rfl, -, h2⟩ := h
  have HR : Hid (0 < n → ao = some ⟨r, 0, none⟩ ∧ Rws w r n f) := h2
  have HC : Hid (∀ k, cn (Bf f) k ≤ k) := cn_le _
  clear h2
  go_enter Try.func27, Try.ntmps27
  go_wp2
  go_loopw [3, 4] (fun p i wr => ∃ k m : Nat, k ≤ n ∧ i = .int .i64 k ∧ p = .int .i64 m ∧ Hid (m = cn (Bf f) k) ∧ wr = w) (fun _ i _ => n - (intOf i).toNat)
  case atStart => exact ⟨0, 0, Nat.zero_le _, rfl, rfl, rfl, rfl⟩
  case round =>
    obtain ⟨k, m, hk, rfl, rfl, HE, rfl⟩ := hrel
    have k0 : (0 : Int) ≤ (k : Int) := by omega
    have m0 : (0 : Int) ≤ (m : Int) := by omega
    have m1 : (m : Int) ≤ 64 := by have := HE.out; have := HC.out k; omega
    by_cases hlt : k < n
    · have k1 : (k : Int) < (n : Int) := by omega
      obtain ⟨rfl, hR⟩ := HR.out (by omega)
      have nx := nine (hR k hlt).1
      clear hR
      have HN : Hid (cn (Bf f) (k + 1) = m + (if (Bf f) k = true then 1 else 0)) := by rw [HE.out]; rfl
      cases hb : (f k).b with
      | false =>
        have HM : Hid (m = cn (Bf f) (k + 1)) := by show _ = _; rw [HN.out, if_neg (by rw [show Bf f k = false from hb]; simp)]; rfl
        go_wp2
        go_roundw
        case rel => exact ⟨k + 1, m, by omega, by go_num, rfl, HM, by first | rfl | trivial⟩
        case measure => simp [intOf]; omega
      | true =>
        have HM : Hid (m + 1 = cn (Bf f) (k + 1)) := by show _ = _; rw [HN.out, if_pos (show Bf f k = true from hb)]
        go_wp2
        go_roundw
        case rel => exact ⟨k + 1, m + 1, by omega, by go_num, by go_num, HM, by first | rfl | trivial⟩
        case measure => simp [intOf]; omega
    · have e : k = n := by omega
      subst e
      have HE' := HE.out
      subst HE'
      go_wp2
      go_ret
      exact ⟨rfl, rfl⟩
set_option maxHeartbeats 2000000 in
theorem rheld_any (r : Nat) (v : Value) (n : Nat) (f : Nat → Bk) (s : Int) (w : World) (h : Rr r w v n f) (hn : n ≤ 64) : Calls Try.prog 25 #[v, .int .i64 s] w fun e w' => e = .returned (.int .i64 (cn (Hf f s) n)) ∧ w' = w := by
  obtain ⟨ao, cap, rfl, -, h2⟩ := h
  have HR : Hid (0 < n → ao = some ⟨r, 0, none⟩ ∧ Rws w r n f) := h2
  have HC : Hid (∀ k, cn (Hf f s) k ≤ k) := cn_le _
  clear h2
  go_enter Try.func25, Try.ntmps25
  go_wp2
  go_loopw [5, 6] (fun p i wr => ∃ k m : Nat, k ≤ n ∧ i = .int .i64 k ∧ p = .int .i64 m ∧ Hid (m = cn (Hf f s) k) ∧ wr = w) (fun _ i _ => n - (intOf i).toNat)
  case atStart => exact ⟨0, 0, Nat.zero_le _, rfl, rfl, rfl, rfl⟩
  case round =>
    obtain ⟨k, m, hk, rfl, rfl, HE, rfl⟩ := hrel
    have k0 : (0 : Int) ≤ (k : Int) := by omega
    have m0 : (0 : Int) ≤ (m : Int) := by omega
    have m1 : (m : Int) ≤ 64 := by have := HE.out; have := HC.out k; omega
    by_cases hlt : k < n
    · have k1 : (k : Int) < (n : Int) := by omega
      obtain ⟨rfl, hR⟩ := HR.out (by omega)
      have nx := nine (hR k hlt).1
      clear hR
      have HN : Hid (cn (Hf f s) (k + 1) = m + (if (Hf f s) k = true then 1 else 0)) := by rw [HE.out]; rfl
      cases hh : (f k).h with
      | false =>
        have HM : Hid (m = cn (Hf f s) (k + 1)) := by show _ = _; rw [HN.out, if_neg (by rw [show Hf f s k = false by show ((f k).h && !(f k).b && decide ((f k).o = s)) = false; rw [hh]; rfl]; simp)]; rfl
        go_wp2
        go_roundw
        case rel => exact ⟨k + 1, m, by omega, by go_num, rfl, HM, by first | rfl | trivial⟩
        case measure => simp [intOf]; omega
      | true =>
        cases hb : (f k).b with
        | true =>
          have HM : Hid (m = cn (Hf f s) (k + 1)) := by show _ = _; rw [HN.out, if_neg (by rw [show Hf f s k = false by show ((f k).h && !(f k).b && decide ((f k).o = s)) = false; rw [hh, hb]; rfl]; simp)]; rfl
          go_wp2
          go_roundw
          case rel => exact ⟨k + 1, m, by omega, by go_num, rfl, HM, by first | rfl | trivial⟩
          case measure => simp [intOf]; omega
        | false =>
          by_cases ho : (f k).o = s
          · have o1 : ((f k).o == s) = true := beq_iff_eq.2 ho
            have HP : Hid (Hf f s k = true) := by show ((f k).h && !(f k).b && decide ((f k).o = s)) = true; rw [hh, hb, decide_eq_true ho]; rfl
            clear ho
            have HM : Hid (m + 1 = cn (Hf f s) (k + 1)) := by show _ = _; rw [HN.out, if_pos (HP.out)]
            go_wp2
            go_roundw
            case rel => exact ⟨k + 1, m + 1, by omega, by go_num, by go_num, HM, by first | rfl | trivial⟩
            case measure => simp [intOf]; omega
          · have o1 : ((f k).o == s) = false := beq_eq_false_iff_ne.2 ho
            have HP : Hid (Hf f s k = false) := by show ((f k).h && !(f k).b && decide ((f k).o = s)) = false; rw [hh, hb, decide_eq_false ho]; rfl
            clear ho
            have HM : Hid (m = cn (Hf f s) (k + 1)) := by show _ = _; rw [HN.out, if_neg (by rw [HP.out]; simp)]; rfl
            go_wp2
            go_roundw
            case rel => exact ⟨k + 1, m, by omega, by go_num, rfl, HM, by first | rfl | trivial⟩
            case measure => simp [intOf]; omega
    · have e : k = n := by omega
      subst e
      have HE' := HE.out
      subst HE'
      go_wp2
      go_ret
      exact ⟨rfl, rfl⟩
set_option maxHeartbeats 2000000 in
theorem rleaks_any (r : Nat) (v : Value) (n : Nat) (f : Nat → Bk) (s : Int) (w : World) (h : Rr r w v n f) (hn : n ≤ 64) : Calls Try.prog 29 #[v, .int .i64 s] w fun e w' => e = .returned (.bool (decide (0 < cn (Lf f s) n))) ∧ w' = w := by
  obtain ⟨ao, cap, rfl, -, h2⟩ := h
  have HR : Hid (0 < n → ao = some ⟨r, 0, none⟩ ∧ Rws w r n f) := h2
  clear h2
  go_enter Try.func29, Try.ntmps29
  go_wp2
  go_loopw [5] (fun i wr => ∃ k : Nat, k ≤ n ∧ i = .int .i64 k ∧ Hid (∀ j, j < k → Lf f s j = false) ∧ wr = w) (fun i _ => n - (intOf i).toNat)
  case atStart => exact ⟨0, Nat.zero_le _, rfl, fun j hj => absurd hj (Nat.not_lt_zero _), rfl⟩
  case round =>
    obtain ⟨k, hk, rfl, HA, rfl⟩ := hrel
    have k0 : (0 : Int) ≤ (k : Int) := by omega
    by_cases hlt : k < n
    · have k1 : (k : Int) < (n : Int) := by omega
      obtain ⟨rfl, hR⟩ := HR.out (by omega)
      have nx := nine (hR k hlt).1
      clear hR
      cases hl : (f k).k with
      | false =>
        have HP : Hid (Lf f s k = false) := by show ((f k).k && (decide ((f k).o = s) || decide ((f k).o = -1))) = false; rw [hl]; rfl
        go_wp2
        go_roundw
        case rel => exact ⟨k + 1, by omega, by go_num, fun j hj => if e : j = k then e ▸ HP.out else HA.out j (by omega), by first | rfl | trivial⟩
        case measure => simp [intOf]; omega
      | true =>
        by_cases ho : (f k).o = s
        · have o1 : ((f k).o == s) = true := beq_iff_eq.2 ho
          have HP : Hid (Lf f s k = true) := by show ((f k).k && (decide ((f k).o = s) || decide ((f k).o = -1))) = true; rw [hl, decide_eq_true ho]; rfl
          clear ho
          go_wp2
          go_ret
          exact ⟨by rw [decide_eq_true (cn_pos HP.out hlt)]; rfl, rfl⟩
        · have o1 : ((f k).o == s) = false := beq_eq_false_iff_ne.2 ho
          by_cases h1 : (f k).o = -1
          · have o2 : ((f k).o == -1) = true := beq_iff_eq.2 h1
            have HP : Hid (Lf f s k = true) := by show ((f k).k && (decide ((f k).o = s) || decide ((f k).o = -1))) = true; rw [hl, decide_eq_true h1]; simp
            clear ho h1
            go_wp2
            go_ret
            exact ⟨by rw [decide_eq_true (cn_pos HP.out hlt)]; rfl, rfl⟩
          · have o2 : ((f k).o == -1) = false := beq_eq_false_iff_ne.2 h1
            have HP : Hid (Lf f s k = false) := by show ((f k).k && (decide ((f k).o = s) || decide ((f k).o = -1))) = false; rw [hl, decide_eq_false ho, decide_eq_false h1]; rfl
            clear ho h1
            go_wp2
            go_roundw
            case rel => exact ⟨k + 1, by omega, by go_num, fun j hj => if e : j = k then e ▸ HP.out else HA.out j (by omega), by first | rfl | trivial⟩
            case measure => simp [intOf]; omega
    · have e : k = n := by omega
      subst e
      have HE : Hid (decide (0 < cn (Lf f s) k) = false) := by show _ = _; rw [cn_zero HA.out]; rfl
      go_wp2
      go_ret
      exact ⟨by rw [HE.out]; rfl, rfl⟩
theorem rowy_arr2i : Rowy 45 2 := ⟨⟨_, Try.underlying45, rfl⟩, by kernel_rfl⟩
abbrev i2 (a b : Int) : List Value := [.int .i64 a, .int .i64 b]
theorem i2_one (a b : Int) : ∀ v ∈ i2 a b, v.oneCell' = true := fun v hv => by
  simp at hv
  rcases hv with rfl | rfl <;> rfl
theorem zero_arr2i : (Try.prog.info? 45).map (fun i => (i.zero, i.size)) = some (some (.agg (i2 0 0).toArray), 2) := by kernel_rfl
theorem below_dr {B : Nat} {a w : World} (h : Below B a w) (n : Nat) : Below B a (w.drewN n) := ⟨h.os, h.tape, h.output, h.size, h.block⟩
set_option maxHeartbeats 8000000 in
theorem rspread_any (r : Nat) (v : Value) (n : Nat) (f : Nat → Bk) (w : World) (h : Rr r w v n f) (hn : n ≤ 64) : Calls Try.prog 21 #[v] w fun e w' => e = .returned (.agg (i2 (oi (fm (Gd f) (Ae f) n)) (oi (fm (Gd f) (Ag f) n))).toArray) ∧ Below w.heap.size w w' := by
  obtain ⟨ao, cap, rfl, -, h2⟩ := h
  have HR : Hid (0 < n → ao = some ⟨r, 0, none⟩ ∧ Rws w r n f) := h2
  have HF : Hid (∀ a, Best (Gd f) (fun i => (f i).e) 0 n a → a = fm (Gd f) (Ae f) n) := fun a ha => best_only ha (fm_best (Gd f) (Ae f) (fun i => (f i).e) (fun _ _ => rfl) n)
  have HG : Hid (∀ a, Best (Gd f) (fun i => -(f i).e) 0 n a → a = fm (Gd f) (Ag f) n) := fun a ha => best_only ha (fm_best (Gd f) (Ag f) (fun i => -(f i).e) (fun i j => by
    show decide ((f j).e < (f i).e) = decide (-(f i).e < -(f j).e)
    by_cases q : (f j).e < (f i).e
    · rw [decide_eq_true q, decide_eq_true (by omega)]
    · rw [decide_eq_false q, decide_eq_false (by omega)]) n)
  have e1 : IntKind.i64.wrap ((n : Int) - 1) = (n : Int) - 1 := by rw [IntKind.wrap_i64]; omega
  clear h2
  have t0 : (0 : Nat) = 0 := rfl
  go_enter Try.func21, Try.ntmps21
  go_wp2_with (first
    | (have qq := t2; (with_reducible refine at_store ?_); refine store_lawC _ (i2 (-1) (-1)) w1.heap.size 0 rfl rfl V2.out.2 rowy_arr2i.2 (i2_one _ _) ?_; intro w3 E3 R3 T3 B3; have V1 : Hid (Vr w3 w.heap.size (i2 0 0)) := V1.out.heap (by rw [E3.out]; exact heap_cells _ _ _ _ _ (Nat.ne_of_lt l1)); have V2 : Hid (Vr w3 w1.heap.size (i2 (-1) (-1))) := ⟨R3, T3⟩; have BB : Hid (Below w.heap.size w w3) := BB.out.trans (B3.mono (Nat.le_of_lt l1)); clear E3 R3 T3 B3 t2)
    | (have qq := t1; (with_reducible refine at_alloc ?_); refine new_lawC _ (i2 0 0) zero_arr2i ?_; intro w2 X2 B2 l2; have V2 : Hid (Vr w2 w1.heap.size (i2 0 0)) := X2; have V1 : Hid (Vr w2 w.heap.size (i2 0 0)) := V1.out.below B2 l1; have BB : Hid (Below w.heap.size w w2) := BB.out.trans (B2.mono BB.out.size); clear X2 B2 t1; have t2 : (0 : Nat) = 0 := rfl)
    | (have qq := t0; (with_reducible refine at_alloc ?_); refine new_lawC _ (i2 0 0) zero_arr2i ?_; intro w1 X1 B1 l1; have V1 : Hid (Vr w1 w.heap.size (i2 0 0)) := X1; have BB : Hid (Below w.heap.size w w1) := B1; clear X1 B1 t0; have t1 : (0 : Nat) = 0 := rfl))
  go_loopw [4] (fun i wr => ∃ (k : Nat) (a b : Option Nat) (z : Int), k ≤ n ∧ i = .int .i64 z ∧ Hid (z = (k : Int) - 1) ∧ Hid (Best (Gd f) (fun i => (f i).e) k n a) ∧ Hid (Best (Gd f) (fun i => -(f i).e) k n b) ∧ Hid (Vr wr w1.heap.size (i2 (oi a) (oi b))) ∧ Hid (Vr wr w.heap.size (i2 0 0)) ∧ Hid (Below w.heap.size w wr)) (fun i _ => (intOf i + 1).toNat)
  case atStart => exact ⟨n, none, none, (n : Int) - 1, Nat.le_refl _, rfl, rfl, fun j h1 h2 => absurd h1 (Nat.not_le.2 h2), fun j h1 h2 => absurd h1 (Nat.not_le.2 h2), V2, V1, BB⟩
  case round =>
    clear e1 V1 V2 BB
    obtain ⟨k, a, b, z, hk, rfl, HZ, HA, HB, V2, V1, BB⟩ := hrel
    have HNE : Hid (w.heap.size ≠ w1.heap.size) := Nat.ne_of_lt l1
    have HLE : Hid (w.heap.size ≤ w1.heap.size) := Nat.le_of_lt l1
    by_cases hk0 : k = 0
    · subst hk0
      have hz : z = -1 := HZ.out
      subst hz
      have HE : Hid (a = fm (Gd f) (Ae f) n) := HF.out a HA.out
      have HE2 : Hid (b = fm (Gd f) (Ag f) n) := HG.out b HB.out
      clear HA HB HF HG
      have c0 := V2.out.cell 0 _ rfl
      have c1 := V2.out.cell 1 _ rfl
      have t0 : (0 : Nat) = 0 := rfl
      go_wp2_with (have qq := t0; (with_reducible refine at_store ?_); refine store_lawC _ (i2 (oi a) (oi b)) w.heap.size 0 rfl rfl V1.out.2 rowy_arr2i.2 (i2_one _ _) ?_; intro w6 E6 R6 T6 B6; have HQ : Hid (w6.rangeAt w.heap.size 0 (i2 (oi a) (oi b))) := R6; have BB : Hid (Below w.heap.size w w6) := BB.out.trans B6; clear E6 R6 T6 B6 t0)
      refine bodyPost_ret (v := .agg (i2 (oi a) (oi b)).toArray) (results_c rfl _ _ w.heap.size _ rowy_arr2i rfl HQ.out) rfl ⟨?_, BB.out⟩
      rw [← HE.out, ← HE2.out]
    · obtain ⟨j, rfl⟩ : ∃ j, k = j + 1 := ⟨k - 1, by omega⟩
      have hz : z = (j : Int) := by have := HZ.out; omega
      subst hz
      clear HZ hk0
      obtain ⟨rfl, hR⟩ := HR.out (by omega)
      have hrl : r < w.heap.size := (hR j (by omega)).lt (Nat.succ_pos _)
      have HRr : Hid (Rws wr r n f) := fun i hi => (hR i hi).heap (BB.out.block r ((hR i hi).lt (Nat.succ_pos _)))
      clear hR
      have j0 : (0 : Int) ≤ (j : Int) := by omega
      have j1 : (j : Int) < (n : Int) := by omega
      have jn : j < n := by omega
      have e2 : IntKind.i64.wrap ((j : Int) - 1) = (j : Int) - 1 := by rw [IntKind.wrap_i64]; omega
      have nx := nine (HRr.out j jn).1
      have z0 := V2.out.free 0 (show (0 : Nat) < 2 by decide)
      have z1 := V2.out.free 1 (show (1 : Nat) < 2 by decide)
      cases hb : (f j).b with
      | true =>
        have HA2 : Hid (Best (Gd f) (fun i => (f i).e) j n a) := best_skip HA.out (by show (!(f j).b) = false; rw [hb]; rfl)
        have HB2 : Hid (Best (Gd f) (fun i => -(f i).e) j n b) := best_skip HB.out (by show (!(f j).b) = false; rw [hb]; rfl)
        go_wp2
        go_roundw
        case rel => exact ⟨j, a, b, _, by omega, rfl, (show ((j : Int) - 1 = (j : Int) - 1) from rfl), HA2, HB2, V2, V1, BB⟩
        case measure => simp [intOf]
      | false =>
        have HP : Hid (Gd f j = true) := by show (!(f j).b) = true; rw [hb]; rfl
        have HNJ : Hid (w1.heap.size ≠ r) := by show _ ≠ _; have := HLE.out; omega
        have hne := HNJ.out
        have y1 : ((w1.heap.size : Nat) = r) = False := by simp [hne]
        cases a with
        | none =>
          have d0 := V2.out.cell 0 (.int .i64 (-1)) rfl
          have HT : Hid (Best (Gd f) (fun i => (f i).e) j n (some j)) := best_none HA.out HP.out jn
          cases b with
          | none =>
            have d1 := V2.out.cell 1 (.int .i64 (-1)) rfl
            have HS : Hid (Best (Gd f) (fun i => -(f i).e) j n (some j)) := best_none HB.out HP.out jn
            go_wp2
            go_quiet (fail)
            go_wp2
            go_quiet (fail)
            go_wp2
            go_roundw
            case rel => exact ⟨j, (some j), (some j), _, by omega, rfl, (show ((j : Int) - 1 = (j : Int) - 1) from rfl), HT, HS, ((((V2.out.drewN _).set 0 (show (0 : Nat) < 2 by decide) _).drewN _).set 1 (show (1 : Nat) < 2 by decide) _), ((((V1.out.drewN _).other _ HNE.out).drewN _).other _ HNE.out), (below_set (below_dr (below_set (below_dr BB.out _) HLE.out) _) HLE.out)⟩
            case measure => simp [intOf]
          | some p =>
            have d1 := V2.out.cell 1 (.int .i64 (p : Int)) rfl
            have pn : p < n := HB.out.2.1
            have p0 : (0 : Int) ≤ (p : Int) := by omega
            have p1 : (p : Int) < (n : Int) := by omega
            have p2 : ¬ (p : Int) < 0 := by omega
            have nz := nine (HRr.out p pn).1
            by_cases hc2 : (f p).e ≤ (f j).e
            · have hd2 : decide ((f j).e ≥ (f p).e) = true := decide_eq_true hc2
              have hd3 : decide ((f p).e ≤ (f j).e) = true := decide_eq_true hc2
              have HS : Hid (Best (Gd f) (fun i => -(f i).e) j n (some j)) := best_take HB.out HP.out jn (by show -(f j).e ≤ -(f p).e; omega)
              clear hc2
              go_wp2
              go_quiet (fail)
              go_wp2
              go_quiet (fail)
              go_wp2
              go_roundw
              case rel => exact ⟨j, (some j), (some j), _, by omega, rfl, (show ((j : Int) - 1 = (j : Int) - 1) from rfl), HT, HS, ((((V2.out.drewN _).set 0 (show (0 : Nat) < 2 by decide) _).drewN _).set 1 (show (1 : Nat) < 2 by decide) _), ((((V1.out.drewN _).other _ HNE.out).drewN _).other _ HNE.out), (below_set (below_dr (below_set (below_dr BB.out _) HLE.out) _) HLE.out)⟩
              case measure => simp [intOf]
            · have hd2 : decide ((f j).e ≥ (f p).e) = false := decide_eq_false hc2
              have hd3 : decide ((f p).e ≤ (f j).e) = false := decide_eq_false hc2
              have HS : Hid (Best (Gd f) (fun i => -(f i).e) j n (some p)) := best_keep HB.out (by show ¬ -(f j).e ≤ -(f p).e; omega)
              clear hc2
              go_wp2
              go_quiet (fail)
              go_wp2
              go_quiet (fail)
              go_wp2
              go_roundw
              case rel => exact ⟨j, (some j), (some p), _, by omega, rfl, (show ((j : Int) - 1 = (j : Int) - 1) from rfl), HT, HS, (((V2.out.drewN _).set 0 (show (0 : Nat) < 2 by decide) _).drewN _), (((V1.out.drewN _).other _ HNE.out).drewN _), (below_dr (below_set (below_dr BB.out _) HLE.out) _)⟩
              case measure => simp [intOf]
        | some q =>
          have d0 := V2.out.cell 0 (.int .i64 (q : Int)) rfl
          have qn : q < n := HA.out.2.1
          have q0 : (0 : Int) ≤ (q : Int) := by omega
          have q1 : (q : Int) < (n : Int) := by omega
          have q2 : ¬ (q : Int) < 0 := by omega
          have ny := nine (HRr.out q qn).1
          by_cases hc : (f j).e ≤ (f q).e
          · have hd : decide ((f j).e ≤ (f q).e) = true := decide_eq_true hc
            have HT : Hid (Best (Gd f) (fun i => (f i).e) j n (some j)) := best_take HA.out HP.out jn hc
            clear hc
            cases b with
            | none =>
              have d1 := V2.out.cell 1 (.int .i64 (-1)) rfl
              have HS : Hid (Best (Gd f) (fun i => -(f i).e) j n (some j)) := best_none HB.out HP.out jn
              go_wp2
              go_quiet (fail)
              go_wp2
              go_quiet (fail)
              go_wp2
              go_roundw
              case rel => exact ⟨j, (some j), (some j), _, by omega, rfl, (show ((j : Int) - 1 = (j : Int) - 1) from rfl), HT, HS, ((((V2.out.drewN _).set 0 (show (0 : Nat) < 2 by decide) _).drewN _).set 1 (show (1 : Nat) < 2 by decide) _), ((((V1.out.drewN _).other _ HNE.out).drewN _).other _ HNE.out), (below_set (below_dr (below_set (below_dr BB.out _) HLE.out) _) HLE.out)⟩
              case measure => simp [intOf]
            | some p =>
              have d1 := V2.out.cell 1 (.int .i64 (p : Int)) rfl
              have pn : p < n := HB.out.2.1
              have p0 : (0 : Int) ≤ (p : Int) := by omega
              have p1 : (p : Int) < (n : Int) := by omega
              have p2 : ¬ (p : Int) < 0 := by omega
              have nz := nine (HRr.out p pn).1
              by_cases hc2 : (f p).e ≤ (f j).e
              · have hd2 : decide ((f j).e ≥ (f p).e) = true := decide_eq_true hc2
                have hd3 : decide ((f p).e ≤ (f j).e) = true := decide_eq_true hc2
                have HS : Hid (Best (Gd f) (fun i => -(f i).e) j n (some j)) := best_take HB.out HP.out jn (by show -(f j).e ≤ -(f p).e; omega)
                clear hc2
                go_wp2
                go_quiet (fail)
                go_wp2
                go_quiet (fail)
                go_wp2
                go_roundw
                case rel => exact ⟨j, (some j), (some j), _, by omega, rfl, (show ((j : Int) - 1 = (j : Int) - 1) from rfl), HT, HS, ((((V2.out.drewN _).set 0 (show (0 : Nat) < 2 by decide) _).drewN _).set 1 (show (1 : Nat) < 2 by decide) _), ((((V1.out.drewN _).other _ HNE.out).drewN _).other _ HNE.out), (below_set (below_dr (below_set (below_dr BB.out _) HLE.out) _) HLE.out)⟩
                case measure => simp [intOf]
              · have hd2 : decide ((f j).e ≥ (f p).e) = false := decide_eq_false hc2
                have hd3 : decide ((f p).e ≤ (f j).e) = false := decide_eq_false hc2
                have HS : Hid (Best (Gd f) (fun i => -(f i).e) j n (some p)) := best_keep HB.out (by show ¬ -(f j).e ≤ -(f p).e; omega)
                clear hc2
                go_wp2
                go_quiet (fail)
                go_wp2
                go_quiet (fail)
                go_wp2
                go_roundw
                case rel => exact ⟨j, (some j), (some p), _, by omega, rfl, (show ((j : Int) - 1 = (j : Int) - 1) from rfl), HT, HS, (((V2.out.drewN _).set 0 (show (0 : Nat) < 2 by decide) _).drewN _), (((V1.out.drewN _).other _ HNE.out).drewN _), (below_dr (below_set (below_dr BB.out _) HLE.out) _)⟩
                case measure => simp [intOf]
          · have hd : decide ((f j).e ≤ (f q).e) = false := decide_eq_false hc
            have HT : Hid (Best (Gd f) (fun i => (f i).e) j n (some q)) := best_keep HA.out hc
            clear hc
            cases b with
            | none =>
              have d1 := V2.out.cell 1 (.int .i64 (-1)) rfl
              have HS : Hid (Best (Gd f) (fun i => -(f i).e) j n (some j)) := best_none HB.out HP.out jn
              go_wp2
              go_quiet (fail)
              go_wp2
              go_quiet (fail)
              go_wp2
              go_roundw
              case rel => exact ⟨j, (some q), (some j), _, by omega, rfl, (show ((j : Int) - 1 = (j : Int) - 1) from rfl), HT, HS, ((V2.out.drewN _).set 1 (show (1 : Nat) < 2 by decide) _), ((V1.out.drewN _).other _ HNE.out), (below_set (below_dr BB.out _) HLE.out)⟩
              case measure => simp [intOf]
            | some p =>
              have d1 := V2.out.cell 1 (.int .i64 (p : Int)) rfl
              have pn : p < n := HB.out.2.1
              have p0 : (0 : Int) ≤ (p : Int) := by omega
              have p1 : (p : Int) < (n : Int) := by omega
              have p2 : ¬ (p : Int) < 0 := by omega
              have nz := nine (HRr.out p pn).1
              by_cases hc2 : (f p).e ≤ (f j).e
              · have hd2 : decide ((f j).e ≥ (f p).e) = true := decide_eq_true hc2
                have hd3 : decide ((f p).e ≤ (f j).e) = true := decide_eq_true hc2
                have HS : Hid (Best (Gd f) (fun i => -(f i).e) j n (some j)) := best_take HB.out HP.out jn (by show -(f j).e ≤ -(f p).e; omega)
                clear hc2
                go_wp2
                go_quiet (fail)
                go_wp2
                go_quiet (fail)
                go_wp2
                go_roundw
                case rel => exact ⟨j, (some q), (some j), _, by omega, rfl, (show ((j : Int) - 1 = (j : Int) - 1) from rfl), HT, HS, ((V2.out.drewN _).set 1 (show (1 : Nat) < 2 by decide) _), ((V1.out.drewN _).other _ HNE.out), (below_set (below_dr BB.out _) HLE.out)⟩
                case measure => simp [intOf]
              · have hd2 : decide ((f j).e ≥ (f p).e) = false := decide_eq_false hc2
                have hd3 : decide ((f p).e ≤ (f j).e) = false := decide_eq_false hc2
                have HS : Hid (Best (Gd f) (fun i => -(f i).e) j n (some p)) := best_keep HB.out (by show ¬ -(f j).e ≤ -(f p).e; omega)
                clear hc2
                go_wp2
                go_quiet (fail)
                go_wp2
                go_quiet (fail)
                go_wp2
                go_roundw
                case rel => exact ⟨j, (some q), (some p), _, by omega, rfl, (show ((j : Int) - 1 = (j : Int) - 1) from rfl), HT, HS, (V2.out.drewN _), (V1.out.drewN _), (below_dr BB.out _)⟩
                case measure => simp [intOf]
end Go.Proofs.Ytnmofigidlmcaaa.le
