/- What the reference's Pick, Victim, Held, Bads, Spread and Leaks answer. No claim of its own. -/
import Derived.Test.YtnmofigidlmcaaaEApp
namespace Go.Proofs.Ytnmofigidlmcaaa.le
open Go.RowKit Go.Proofs.Ytnmofigidlmcaaa.he
set_option maxRecDepth 20000

set_option maxHeartbeats 4000000 in
theorem rpick_any (r : Nat) (v : Value) (n : Nat) (f : Nat → Bk) (w : World) (h : Rr r w v n f) (hn : n ≤ 64) : Calls Try.prog 22 #[v] w fun e w' => e = .returned (.int .i64 (oi (fm (Pf f) (Ae f) n))) ∧ ∃ m, w' = w.drewN m := by
  obtain ⟨ao, cap, rfl, -, h2⟩ := h
  have HR : Hid (0 < n → ao = some ⟨r, 0, none⟩ ∧ Rws w r n f) := h2
  have HF : Hid (∀ a, Best (Pf f) (fun i => (f i).e) 0 n a → a = fm (Pf f) (Ae f) n) := fun a ha => best_only ha (fm_best (Pf f) (Ae f) (fun i => (f i).e) (fun _ _ => rfl) n)
  have e1 : IntKind.i64.wrap ((n : Int) - 1) = (n : Int) - 1 := by rw [IntKind.wrap_i64]; omega
  clear h2
  go_enter Try.func22, Try.ntmps22
  go_wp2
  go_loopw [3, 4] (fun p i wr => ∃ (k m : Nat) (a : Option Nat) (z : Int), k ≤ n ∧ i = .int .i64 z ∧ Hid (z = (k : Int) - 1) ∧ p = .int .i64 (oi a) ∧ Hid (Best (Pf f) (fun i => (f i).e) k n a) ∧ wr = w.drewN m) (fun _ i _ => (intOf i + 1).toNat)
  case atStart => exact ⟨n, 0, none, (n : Int) - 1, Nat.le_refl _, rfl, rfl, rfl, fun j h1 h2 => absurd h1 (Nat.not_le.2 h2), rfl⟩
  case round =>
    clear e1
    obtain ⟨k, m, a, z, hk, rfl, HZ, hp, HB, rfl⟩ := hrel
    by_cases hk0 : k = 0
    · subst hk0
      have hz : z = -1 := HZ.out
      subst hz
      subst hp
      have HE : Hid (a = fm (Pf f) (Ae f) n) := HF.out a HB.out
      clear HB HF
      go_wp2
      go_ret
      exact ⟨by rw [HE.out]; rfl, _, rfl⟩
    · obtain ⟨j, rfl⟩ : ∃ j, k = j + 1 := ⟨k - 1, by omega⟩
      have hz : z = (j : Int) := by have := HZ.out; omega
      subst hz
      clear HZ hk0
      obtain ⟨rfl, hR⟩ := HR.out (by omega)
      have HRr : Hid (Rws w r n f) := hR
      clear hR
      have j0 : (0 : Int) ≤ (j : Int) := by omega
      have j1 : (j : Int) < (n : Int) := by omega
      have jn : j < n := by omega
      have e2 : IntKind.i64.wrap ((j : Int) - 1) = (j : Int) - 1 := by rw [IntKind.wrap_i64]; omega
      have nx : _ := nine (HRr.out j jn).1
      cases hh : (f j).h with
      | true =>
        have HT : Hid (Best _ _ j n a) := best_skip HB.out (by show (!(f j).h && !(f j).b) = false; rw [hh]; rfl)
        obtain ⟨z0, hz0⟩ : ∃ z0, z0 = oi a := ⟨_, rfl⟩
        have HZ0 : Hid (z0 = oi a) := hz0
        rw [← hz0] at hp
        clear hz0
        subst hp
        go_wp2
        go_quiet (fail)
        go_wp2
        go_roundw
        case rel => exact ⟨j, _, a, _, by omega, rfl, (show ((j : Int) - 1 = (j : Int) - 1) from rfl), (show Value.int .i64 z0 = _ by rw [HZ0.out]), HT, rfl⟩
        case measure => simp [intOf]
      | false =>
        cases hb : (f j).b with
        | true =>
          have HT : Hid (Best _ _ j n a) := best_skip HB.out (by show (!(f j).h && !(f j).b) = false; rw [hh, hb]; rfl)
          obtain ⟨z0, hz0⟩ : ∃ z0, z0 = oi a := ⟨_, rfl⟩
          have HZ0 : Hid (z0 = oi a) := hz0
          rw [← hz0] at hp
          clear hz0
          subst hp
          go_wp2
          go_quiet (fail)
          go_wp2
          go_roundw
          case rel => exact ⟨j, _, a, _, by omega, rfl, (show ((j : Int) - 1 = (j : Int) - 1) from rfl), (show Value.int .i64 z0 = _ by rw [HZ0.out]), HT, rfl⟩
          case measure => simp [intOf]
        | false =>
          have HP : Hid (Pf f j = true) := by show (!(f j).h && !(f j).b) = true; rw [hh, hb]; rfl
          cases a with
          | none =>
            have hp' : _ = Value.int .i64 (-1) := hp
            clear hp
            subst hp'
            go_wp2
            go_quiet (fail)
            go_wp2
            go_roundw
            case rel => exact ⟨j, _, (some j), _, by omega, rfl, (show ((j : Int) - 1 = (j : Int) - 1) from rfl), rfl, best_none HB.out HP.out jn, rfl⟩
            case measure => simp [intOf]
          | some q =>
            have hp' : _ = Value.int .i64 (q : Int) := hp
            clear hp
            subst hp'
            have qn : q < n := HB.out.2.1
            have q0 : (0 : Int) ≤ (q : Int) := by omega
            have q1 : (q : Int) < (n : Int) := by omega
            have q2 : ¬ (q : Int) < 0 := by omega
            have ny : _ := nine (HRr.out q qn).1
            by_cases hc : (f j).e ≤ (f q).e
            · have hd : decide ((f j).e ≤ (f q).e) = true := decide_eq_true hc
              have HT : Hid (Best _ _ j n (some j)) := best_take HB.out HP.out jn hc
              clear hc
              go_wp2
              go_quiet (fail)
              go_wp2
              go_roundw
              case rel => exact ⟨j, _, (some j), _, by omega, rfl, (show ((j : Int) - 1 = (j : Int) - 1) from rfl), rfl, HT, rfl⟩
              case measure => simp [intOf]
            · have hd : decide ((f j).e ≤ (f q).e) = false := decide_eq_false hc
              have HT : Hid (Best _ _ j n (some q)) := best_keep HB.out hc
              clear hc
              go_wp2
              go_quiet (fail)
              go_wp2
              go_roundw
              case rel => exact ⟨j, _, (some q), _, by omega, rfl, (show ((j : Int) - 1 = (j : Int) - 1) from rfl), rfl, HT, rfl⟩
              case measure => simp [intOf]

set_option maxHeartbeats 4000000 in
theorem rvictim_any (r : Nat) (v : Value) (n : Nat) (f : Nat → Bk) (s y : Int) (w : World) (h : Rr r w v n f) (hn : n ≤ 64) : Calls Try.prog 23 #[v, .int .i64 s, .int .i64 y] w fun e w' => e = .returned (.int .i64 (oi (fm (Vf f s y) (Al f) n))) ∧ ∃ m, w' = w.drewN m := by
  obtain ⟨ao, cap, rfl, -, h2⟩ := h
  have HR : Hid (0 < n → ao = some ⟨r, 0, none⟩ ∧ Rws w r n f) := h2
  have HF : Hid (∀ a, Best (Vf f s y) (fun i => (f i).l) 0 n a → a = fm (Vf f s y) (Al f) n) := fun a ha => best_only ha (fm_best (Vf f s y) (Al f) (fun i => (f i).l) (fun _ _ => rfl) n)
  have e1 : IntKind.i64.wrap ((n : Int) - 1) = (n : Int) - 1 := by rw [IntKind.wrap_i64]; omega
  clear h2
  go_enter Try.func23, Try.ntmps23
  go_wp2
  go_loopw [7, 8] (fun p i wr => ∃ (k m : Nat) (a : Option Nat) (z : Int), k ≤ n ∧ i = .int .i64 z ∧ Hid (z = (k : Int) - 1) ∧ p = .int .i64 (oi a) ∧ Hid (Best (Vf f s y) (fun i => (f i).l) k n a) ∧ wr = w.drewN m) (fun _ i _ => (intOf i + 1).toNat)
  case atStart => exact ⟨n, 0, none, (n : Int) - 1, Nat.le_refl _, rfl, rfl, rfl, fun j h1 h2 => absurd h1 (Nat.not_le.2 h2), rfl⟩
  case round =>
    clear e1
    obtain ⟨k, m, a, z, hk, rfl, HZ, hp, HB, rfl⟩ := hrel
    by_cases hk0 : k = 0
    · subst hk0
      have hz : z = -1 := HZ.out
      subst hz
      subst hp
      have HE : Hid (a = fm (Vf f s y) (Al f) n) := HF.out a HB.out
      clear HB HF
      go_wp2
      go_ret
      exact ⟨by rw [HE.out]; rfl, _, rfl⟩
    · obtain ⟨j, rfl⟩ : ∃ j, k = j + 1 := ⟨k - 1, by omega⟩
      have hz : z = (j : Int) := by have := HZ.out; omega
      subst hz
      clear HZ hk0
      obtain ⟨rfl, hR⟩ := HR.out (by omega)
      have HRr : Hid (Rws w r n f) := hR
      clear hR
      have j0 : (0 : Int) ≤ (j : Int) := by omega
      have j1 : (j : Int) < (n : Int) := by omega
      have jn : j < n := by omega
      have e2 : IntKind.i64.wrap ((j : Int) - 1) = (j : Int) - 1 := by rw [IntKind.wrap_i64]; omega
      have nx : _ := nine (HRr.out j jn).1
      by_cases hy : (j : Int) = y
      · have y1 : ((j : Int) != y) = false := by simp [hy]
        have HY : Hid ((j : Int) = y) := hy
        clear hy
        have HT : Hid (Best _ _ j n a) := best_skip HB.out (by show (decide ((j : Int) ≠ y) && ((f j).h && !(f j).b && decide ((f j).o = s))) = false; rw [decide_eq_false (fun q => q HY.out)]; rfl)
        obtain ⟨z0, hz0⟩ : ∃ z0, z0 = oi a := ⟨_, rfl⟩
        have HZ0 : Hid (z0 = oi a) := hz0
        rw [← hz0] at hp
        clear hz0
        subst hp
        go_wp2
        go_quiet (fail)
        go_wp2
        go_roundw
        case rel => exact ⟨j, _, a, _, by omega, rfl, (show ((j : Int) - 1 = (j : Int) - 1) from rfl), (show Value.int .i64 z0 = _ by rw [HZ0.out]), HT, rfl⟩
        case measure => simp [intOf]
      · have y1 : ((j : Int) != y) = true := bne_iff_ne.2 hy
        cases hh : (f j).h with
        | false =>
          have HT : Hid (Best _ _ j n a) := best_skip HB.out (by show (decide ((j : Int) ≠ y) && ((f j).h && !(f j).b && decide ((f j).o = s))) = false; rw [hh]; simp)
          obtain ⟨z0, hz0⟩ : ∃ z0, z0 = oi a := ⟨_, rfl⟩
          have HZ0 : Hid (z0 = oi a) := hz0
          rw [← hz0] at hp
          clear hz0
          subst hp
          go_wp2
          go_quiet (fail)
          go_wp2
          go_roundw
          case rel => exact ⟨j, _, a, _, by omega, rfl, (show ((j : Int) - 1 = (j : Int) - 1) from rfl), (show Value.int .i64 z0 = _ by rw [HZ0.out]), HT, rfl⟩
          case measure => simp [intOf]
        | true =>
          cases hb : (f j).b with
          | true =>
            have HT : Hid (Best _ _ j n a) := best_skip HB.out (by show (decide ((j : Int) ≠ y) && ((f j).h && !(f j).b && decide ((f j).o = s))) = false; rw [hh, hb]; simp)
            obtain ⟨z0, hz0⟩ : ∃ z0, z0 = oi a := ⟨_, rfl⟩
            have HZ0 : Hid (z0 = oi a) := hz0
            rw [← hz0] at hp
            clear hz0
            subst hp
            go_wp2
            go_quiet (fail)
            go_wp2
            go_roundw
            case rel => exact ⟨j, _, a, _, by omega, rfl, (show ((j : Int) - 1 = (j : Int) - 1) from rfl), (show Value.int .i64 z0 = _ by rw [HZ0.out]), HT, rfl⟩
            case measure => simp [intOf]
          | false =>
            by_cases ho : (f j).o = s
            · have o1 : ((f j).o == s) = true := beq_iff_eq.2 ho
              have HP : Hid (Vf f s y j = true) := by show (decide ((j : Int) ≠ y) && ((f j).h && !(f j).b && decide ((f j).o = s))) = true; rw [hh, hb, decide_eq_true ho, decide_eq_true hy]; rfl
              cases a with
              | none =>
                have hp' : _ = Value.int .i64 (-1) := hp
                clear hp
                subst hp'
                go_wp2
                go_quiet (fail)
                go_wp2
                go_roundw
                case rel => exact ⟨j, _, (some j), _, by omega, rfl, (show ((j : Int) - 1 = (j : Int) - 1) from rfl), rfl, best_none HB.out HP.out jn, rfl⟩
                case measure => simp [intOf]
              | some q =>
                have hp' : _ = Value.int .i64 (q : Int) := hp
                clear hp
                subst hp'
                have qn : q < n := HB.out.2.1
                have q0 : (0 : Int) ≤ (q : Int) := by omega
                have q1 : (q : Int) < (n : Int) := by omega
                have q2 : ¬ (q : Int) < 0 := by omega
                have ny : _ := nine (HRr.out q qn).1
                by_cases hc : (f j).l ≤ (f q).l
                · have hd : decide ((f j).l ≤ (f q).l) = true := decide_eq_true hc
                  have HT : Hid (Best _ _ j n (some j)) := best_take HB.out HP.out jn hc
                  clear hc
                  go_wp2
                  go_quiet (fail)
                  go_wp2
                  go_roundw
                  case rel => exact ⟨j, _, (some j), _, by omega, rfl, (show ((j : Int) - 1 = (j : Int) - 1) from rfl), rfl, HT, rfl⟩
                  case measure => simp [intOf]
                · have hd : decide ((f j).l ≤ (f q).l) = false := decide_eq_false hc
                  have HT : Hid (Best _ _ j n (some q)) := best_keep HB.out hc
                  clear hc
                  go_wp2
                  go_quiet (fail)
                  go_wp2
                  go_roundw
                  case rel => exact ⟨j, _, (some q), _, by omega, rfl, (show ((j : Int) - 1 = (j : Int) - 1) from rfl), rfl, HT, rfl⟩
                  case measure => simp [intOf]
            · have o1 : ((f j).o == s) = false := beq_eq_false_iff_ne.2 ho
              have HT : Hid (Best _ _ j n a) := best_skip HB.out (by show (decide ((j : Int) ≠ y) && ((f j).h && !(f j).b && decide ((f j).o = s))) = false; rw [decide_eq_false ho]; simp)
              obtain ⟨z0, hz0⟩ : ∃ z0, z0 = oi a := ⟨_, rfl⟩
              have HZ0 : Hid (z0 = oi a) := hz0
              rw [← hz0] at hp
              clear hz0
              subst hp
              go_wp2
              go_quiet (fail)
              go_wp2
              go_roundw
              case rel => exact ⟨j, _, a, _, by omega, rfl, (show ((j : Int) - 1 = (j : Int) - 1) from rfl), (show Value.int .i64 z0 = _ by rw [HZ0.out]), HT, rfl⟩
              case measure => simp [intOf]

end Go.Proofs.Ytnmofigidlmcaaa.le
