/- What page's join and Blank answer. No claim of its own. -/
import Derived.Test.YtpmakkjcpoillaaDoorHEqx
import Derived.Test.YtpmakkjcpoillaaDoorGCalls
import Derived.Test.YtpmakkjcpoillaaDoorGRight
import Derived.Test.YtpmakkjcpoillaaDoorHRrd
namespace Go.Proofs.YtpmakkjcpoillaaDoor.pa
open Go.RowKit Go.Proofs.YtpmakkjcpoillaaDoor.fa Go.Proofs.YtpmakkjcpoillaaDoor.he
set_option maxRecDepth 20000

theorem join_any (a b : Value) (x y : List Int) (w : World) (ha : Byt w a x) (hb : Byt w b y) (l1 : x.length ≤ 10000) (l2 : y.length ≤ 10000) (hp : 0 < x.length) :
    Calls Tryd.prog 26 #[.agg ([a, b] : List Value).toArray] w fun e w' => ∃ r, e = .returned r ∧ Own w.heap.size w' r (x ++ y) ∧ Below w.heap.size w w' := by
  have e : cats [x, y] 2 = x ++ y := by simp [cats]
  have SC : Hid (∀ w1, Vr w1 w.heap.size [a, b] → Below w.heap.size w w1 → Calls Tryd.prog 44 #[.slice (some ⟨w.heap.size, 0, none⟩) 2 2] w1 fun e w' => ∃ r, e = .returned r ∧ Own w.heap.size w' r (x ++ y) ∧ Below w.heap.size w w') := fun w1 hV hB => by
    have := concat_any w.heap.size 2 (fun k => ([a, b] : List Value).getD k undef) [x, y] w1 rfl (by omega) (fun k hk => by
      match k, hk with
      | 0, _ => exact ha.below hB
      | 1, _ => exact hb.below hB) (fun k hk => by
      have hk : k < 2 := hk
      match k, hk with
      | 0, _ => exact l1
      | 1, _ => exact l2) (by rw [e]; simp; omega) (fun k hk => by
      match k, hk with
      | 0, _ => exact hV.cell 0 _ rfl
      | 1, _ => exact hV.cell 1 _ rfl)
    rw [e] at this
    refine this.mono ?_
    rintro q w' ⟨r, rfl, o, B⟩
    exact ⟨r, rfl, own_less o hB.size, hB.trans (B.mono hB.size)⟩
  clear ha hb l1 l2 hp e
  have t0 : (0 : Nat) = 0 := rfl
  go_enter Tryd.func26, Tryd.ntmps26
  go_wp2_with (first
    | (have q1 := t1; go_at_call 44; refine (SC.out _ HV.out BB.out).mono ?_; rintro e9 w2 ⟨r, rfl, O2, B2⟩; clear t1)
    | (have q0 := t0; refine box_lawC _ [a, b] rfl ?_; intro w1 X1 B1 l1; have HV : Hid (Vr w1 w.heap.size [a, b]) := X1; have BB : Hid (Below w.heap.size w w1) := B1; clear X1 B1 l1 t0; have t1 : (1 : Nat) = 1 := rfl))
  go_ret
  exact ⟨_, rfl, O2, B2⟩

theorem blank_at {xs : List Int} {k : Nat} (hk : k < xs.length) (hx : gb xs k ≠ 255) : decide (xs = List.replicate xs.length 255) = false := by
  refine decide_eq_false fun e => hx ?_
  rw [gb, List.getD_eq_getElem?_getD, e]
  simp [hk]
theorem blank_all {xs : List Int} (h : ∀ j, j < xs.length → gb xs j = 255) : decide (xs = List.replicate xs.length 255) = true := by
  refine decide_eq_true (List.ext_getElem (by simp) fun i h1 h2 => ?_)
  have := h i h1
  simp [gb, List.getD, h1] at this
  simp [this]
theorem blank_any (v : Value) (xs : List Int) (w : World) (h : Byt w v xs) :
    Calls Tryd.prog 17 #[v] w fun e w' => e = .returned (.bool (decide (xs = List.replicate xs.length 255))) ∧ w' = w := by
  obtain ⟨ao, cap, rfl, h1, h2, h3, h4, h5⟩ := h
  obtain ⟨B, hB⟩ : ∃ b, decide (xs = List.replicate xs.length 255) = b := ⟨_, rfl⟩
  have HB : Hid (decide (xs = List.replicate xs.length 255) = B) := hB
  have HA : Hid (AllB xs) := h3
  rw [hB]
  clear hB h3
  obtain ⟨n, hn⟩ : ∃ n, xs.length = n := ⟨_, rfl⟩
  have HN : Hid (xs.length = n) := hn
  rw [hn] at h1 h5 ⊢
  clear hn
  go_enter Tryd.func17, Tryd.ntmps17
  go_wp2
  go_loopw [7] (fun i wr => wr = w ∧ ∃ k : Nat, k ≤ n ∧ i = .int .i64 (k : Int) ∧ ∀ j, j < k → gb xs j = 255) (fun i _ => n - (intOf i).toNat)
  case atStart => exact ⟨rfl, 0, Nat.zero_le _, rfl, fun j hj => by omega⟩
  case round =>
    obtain ⟨rfl, k, hk, rfl, hj⟩ := hrel
    have HJ : Hid (∀ j, j < k → gb xs j = 255) := hj
    clear hj
    by_cases hlt : k < n
    · have lk : (k : Int) < (n : Int) := by omega
      obtain ⟨b, off, rfl, hc⟩ := h5 (by omega)
      have hx := hc k hlt
      have hb := HA.out k
      obtain ⟨x, ex⟩ : ∃ x, gb xs k = x := ⟨_, rfl⟩
      rw [ex] at hx hb
      have HE : Hid (gb xs k = x) := ex
      clear ex hc
      by_cases hq : x = 255
      · subst hq
        go_wp2
        go_roundw
        case rel => exact ⟨trivial, k + 1, by omega, by go_num, fun j hj => by
          by_cases e : j = k
          · rw [e]; exact HE.out
          · exact HJ.out j (by omega)⟩
        case measure => simp [intOf]; omega
      · have n2 : (x != 255) = true := bne_iff_ne.2 hq
        have e : B = false := by rw [← HB.out]; exact blank_at (by rw [HN.out]; exact hlt) (by rw [HE.out]; exact hq)
        subst e
        go_wp2
        go_ret
        exact ⟨rfl, rfl⟩
    · have lk : ¬ ((k : Int) < (n : Int)) := by omega
      have e : B = true := by rw [← HB.out]; exact blank_all (fun j hj => HJ.out j (by rw [HN.out] at hj; omega))
      subst e
      go_wp2
      go_ret
      exact ⟨rfl, rfl⟩
end Go.Proofs.YtpmakkjcpoillaaDoor.pa
