/- What the reference's Refs, Data and Place answer. No claim of its own. -/
import Derived.Test.YtedmmpognhpbdaaJCe
namespace Go.Proofs.Ytedmmpognhpbdaa.pm
open Go.RowKit Go.Proofs.Ytedmmpognhpbdaa.he
set_option maxRecDepth 20000

theorem rrefs_any (s : Nat → Nat) (v : Value) (L : List Ce) (p : PL) (w : World) (hL : Cl w v L) (hn : L.length ≤ 100000) : Calls Try.prog 12 #[.agg (rmc s v).toArray, .agg (pc p).toArray] w fun e w' => e = .returned (.int .i64 ((L.countP (atp p) : Nat) : Int)) ∧ Below w.heap.size w w' := by
  obtain ⟨ao, cap, rfl, hr⟩ := hL
  obtain ⟨n, hN⟩ : ∃ n, n = L.length := ⟨_, rfl⟩
  have HR : Hid (0 < n → ∃ g, ao = some ⟨g, 0, none⟩ ∧ Rc w g L) := by rw [hN]; exact hr
  have NN : Hid (n = L.length) := hN
  rw [← hN]
  have n9 : (n : Int) ≤ 100000 := by omega
  clear hr hn hN
  have t0 : (0 : Nat) = 0 := rfl
  go_enter Try.func12, Try.ntmps12
  go_wp2_with (first
    | (have qq := t1; refine box_lawC _ (pc p) rfl ?_; intro w2 X9 B9 l9; have HP : Hid (Vr w2 w1.heap.size (pc p)) := X9; have HM : Hid (Vr w2 w.heap.size (rmc s (.slice ao n cap))) := HM.out.below B9 (range_lt HM.out.1 (Nat.succ_pos _)); have HB : Hid (Below w.heap.size w w2) := HB.out.trans (B9.mono HB.out.size); clear X9 B9 l9 t1)
    | (have qq := t0; refine box_lawC _ (rmc s (.slice ao n cap)) rfl ?_; intro w1 X9 B9 l9; have HM : Hid (Vr w1 w.heap.size (rmc s (.slice ao n cap))) := X9; have HB : Hid (Below w.heap.size w w1) := B9; clear X9 B9 l9 t0; have t1 : (0 : Nat) = 0 := rfl))
  go_loopw [5, 6] (fun cv iv wr => ∃ k c : Nat, k ≤ n ∧ c ≤ k ∧ iv = .int .i64 k ∧ cv = .int .i64 c ∧ Hid (c = (L.take k).countP (atp p)) ∧ Hid (Vr wr w.heap.size (rmc s (.slice ao n cap))) ∧ Hid (Vr wr w1.heap.size (pc p)) ∧ Hid (Below w.heap.size w wr)) (fun _ iv _ => n - (intOf iv).toNat)
  case atStart => exact ⟨0, 0, Nat.zero_le _, Nat.le_refl _, rfl, rfl, rfl, HM, HP, HB⟩
  case round =>
    clear HM HP HB
    obtain ⟨k, c, hk, hc, rfl, rfl, HC, HM, HP, HB⟩ := hrel
    have cw : IntKind.i64.wrap ((c : Int) + 1) = ((c + 1 : Nat) : Int) := by rw [IntKind.wrap_i64]; omega
    have np0 : wr.cell? ⟨w1.heap.size, 0, none⟩ = some (.int .i64 p.1) := HP.out.cell 0 _ rfl
    have np1 : wr.cell? ⟨w1.heap.size, 1, none⟩ = some (.int .i64 p.2) := HP.out.cell 1 _ rfl
    have k0 : (0 : Int) ≤ (k : Int) := by omega
    have kw : IntKind.i64.wrap ((k : Int) + 1) = ((k + 1 : Nat) : Int) := by rw [IntKind.wrap_i64]; omega
    have nv : wr.cell? ⟨w.heap.size, 4, none⟩ = some (.slice ao n cap) := HM.out.cell 4 _ rfl
    by_cases hlt : k < n
    · have k1 : (k : Int) < (n : Int) := by omega
      obtain ⟨x, hx⟩ : ∃ x, L[k]? = some x := ⟨_, List.getElem?_eq_getElem (by have := NN.out; omega)⟩
      obtain ⟨g, rfl, hr⟩ := HR.out (by omega)
      have nx := cells16 ((hr.below HB.out) k x hx).1
      have HX : Hid (L[k]? = some x) := hx
      clear hr hx
      have gd : Try.prog.eqGuardType Try.prog.depth 31 = false := by kernel_rfl
      by_cases hp : x.s.p = p
      · have eq : ∀ W : World, (Op.equalIn 10000 31 (.agg #[.int .i64 x.s.p.1, .int .i64 x.s.p.2]) (.agg #[.int .i64 p.1, .int .i64 p.2])).run Try.prog W = .ok true W := fun W => (run_equal x.s.p p W).trans (by rw [decide_eq_true hp])
        have CC : Hid (c + 1 = (L.take (k + 1)).countP (atp p)) := by show _ = _; rw [take_more HX.out, List.countP_append, ← HC.out]; simp [atp, hp]
        clear hp
        go_wp2
        go_quiet (fail)
        clear eq nx np0 np1
        go_wp2
        go_roundw
        case rel => exact ⟨k + 1, c + 1, by omega, by omega, by go_num, by go_num, CC, HM.out.drewN _, HP.out.drewN _, below_dr HB.out _⟩
        case measure => simp [intOf]; omega
      · have eq : ∀ W : World, (Op.equalIn 10000 31 (.agg #[.int .i64 x.s.p.1, .int .i64 x.s.p.2]) (.agg #[.int .i64 p.1, .int .i64 p.2])).run Try.prog W = .ok false W := fun W => (run_equal x.s.p p W).trans (by rw [decide_eq_false hp])
        have CC : Hid (c = (L.take (k + 1)).countP (atp p)) := by show _ = _; rw [take_more HX.out, List.countP_append, ← HC.out]; simp [atp, hp]
        clear hp
        go_wp2
        go_quiet (fail)
        clear eq nx np0 np1
        go_wp2
        go_roundw
        case rel => exact ⟨k + 1, c, by omega, by omega, by go_num, rfl, CC, HM.out.drewN _, HP.out.drewN _, below_dr HB.out _⟩
        case measure => simp [intOf]; omega
    · have k1 : ¬ (k : Int) < (n : Int) := by omega
      go_wp2
      go_ret
      refine ⟨?_, HB.out⟩
      rw [HC.out, List.take_of_length_le (by have := NN.out; omega)]
      rfl
theorem rdata_any (s : Nat → Nat) (v : Value) (L : List Ce) (ns : Int) (w : World) (hL : Cl w v L) (hn : L.length ≤ 100000) : Calls Try.prog 32 #[.agg (rmc s v).toArray, .int .i64 ns] w fun e w' => e = .returned (.int .i64 ((L.countP (dat ns) : Nat) : Int)) ∧ Below w.heap.size w w' := by
  obtain ⟨ao, cap, rfl, hr⟩ := hL
  obtain ⟨n, hN⟩ : ∃ n, n = L.length := ⟨_, rfl⟩
  have HR : Hid (0 < n → ∃ g, ao = some ⟨g, 0, none⟩ ∧ Rc w g L) := by rw [hN]; exact hr
  have NN : Hid (n = L.length) := hN
  rw [← hN]
  have n9 : (n : Int) ≤ 100000 := by omega
  clear hr hn hN
  have t0 : (0 : Nat) = 0 := rfl
  go_enter Try.func32, Try.ntmps32
  go_wp2_with (have qq := t0; refine box_lawC _ (rmc s (.slice ao n cap)) rfl ?_; intro w1 X9 B9 l9; have HM : Hid (Vr w1 w.heap.size (rmc s (.slice ao n cap))) := X9; have HB : Hid (Below w.heap.size w w1) := B9; clear X9 B9 l9 t0)
  go_loopw [5, 6] (fun cv iv wr => ∃ k c : Nat, k ≤ n ∧ c ≤ k ∧ iv = .int .i64 k ∧ cv = .int .i64 c ∧ Hid (c = (L.take k).countP (dat ns)) ∧ Hid (Vr wr w.heap.size (rmc s (.slice ao n cap))) ∧ Hid (Below w.heap.size w wr)) (fun _ iv _ => n - (intOf iv).toNat)
  case atStart => exact ⟨0, 0, Nat.zero_le _, Nat.le_refl _, rfl, rfl, rfl, HM, HB⟩
  case round =>
    clear HM HB
    obtain ⟨k, c, hk, hc, rfl, rfl, HC, HM, HB⟩ := hrel
    have cw : IntKind.i64.wrap ((c : Int) + 1) = ((c + 1 : Nat) : Int) := by rw [IntKind.wrap_i64]; omega
    have k0 : (0 : Int) ≤ (k : Int) := by omega
    have kw : IntKind.i64.wrap ((k : Int) + 1) = ((k + 1 : Nat) : Int) := by rw [IntKind.wrap_i64]; omega
    have nv : wr.cell? ⟨w.heap.size, 4, none⟩ = some (.slice ao n cap) := HM.out.cell 4 _ rfl
    by_cases hlt : k < n
    · have k1 : (k : Int) < (n : Int) := by omega
      obtain ⟨x, hx⟩ : ∃ x, L[k]? = some x := ⟨_, List.getElem?_eq_getElem (by have := NN.out; omega)⟩
      obtain ⟨g, rfl, hr⟩ := HR.out (by omega)
      have nx := cells16 ((hr.below HB.out) k x hx).1
      have HX : Hid (L[k]? = some x) := hx
      clear hr hx
      by_cases hp : x.n = ns
      · have d1 : decide (x.n = ns) = true := decide_eq_true hp
        have d2 : (x.n == ns) = true := beq_iff_eq.2 hp
        by_cases hq : x.s.h.k = 1
        · have d3 : decide (x.s.h.k = 1) = true := decide_eq_true hq
          have d4 : (x.s.h.k == 1) = true := beq_iff_eq.2 hq
          have CC : Hid (c + 1 = (L.take (k + 1)).countP (dat ns)) := by show _ = _; rw [take_more HX.out, List.countP_append, ← HC.out]; simp [dat, hp, hq]
          go_wp2
          go_roundw
          case rel => exact ⟨k + 1, c + 1, by omega, by omega, by go_num, by go_num, CC, HM, HB⟩
          case measure => simp [intOf]; omega
        · have d3 : decide (x.s.h.k = 1) = false := decide_eq_false hq
          have d4 : (x.s.h.k == 1) = false := beq_eq_false_iff_ne.2 hq
          have CC : Hid (c = (L.take (k + 1)).countP (dat ns)) := by show _ = _; rw [take_more HX.out, List.countP_append, ← HC.out]; simp [dat, hp, hq]
          go_wp2
          go_roundw
          case rel => exact ⟨k + 1, c, by omega, by omega, by go_num, rfl, CC, HM, HB⟩
          case measure => simp [intOf]; omega
      · have d1 : decide (x.n = ns) = false := decide_eq_false hp
        have d2 : (x.n == ns) = false := beq_eq_false_iff_ne.2 hp
        have CC : Hid (c = (L.take (k + 1)).countP (dat ns)) := by show _ = _; rw [take_more HX.out, List.countP_append, ← HC.out]; simp [dat, hp]
        go_wp2
        go_roundw
        case rel => exact ⟨k + 1, c, by omega, by omega, by go_num, rfl, CC, HM, HB⟩
        case measure => simp [intOf]; omega
    · have k1 : ¬ (k : Int) < (n : Int) := by omega
      go_wp2
      go_ret
      refine ⟨?_, HB.out⟩
      rw [HC.out, List.take_of_length_le (by have := NN.out; omega)]
      rfl
theorem rplace_any (s : Nat → Nat) (v : Value) (L : List Ce) (ns lb : Int) (w : World) (hL : Cl w v L) (hn : L.length ≤ 100000) : Calls Try.prog 33 #[.agg (rmc s v).toArray, .int .i64 ns, .int .i64 lb] w fun e w' => e = .returned (.int .i64 (plc ns lb L 0)) ∧ Below w.heap.size w w' := by
  obtain ⟨ao, cap, rfl, hr⟩ := hL
  obtain ⟨n, hN⟩ : ∃ n, n = L.length := ⟨_, rfl⟩
  have HR : Hid (0 < n → ∃ g, ao = some ⟨g, 0, none⟩ ∧ Rc w g L) := by rw [hN]; exact hr
  have NN : Hid (n = L.length) := hN
  rw [← hN]
  have n9 : (n : Int) ≤ 100000 := by omega
  clear hr hn hN
  have t0 : (0 : Nat) = 0 := rfl
  go_enter Try.func33, Try.ntmps33
  go_wp2_with (have qq := t0; refine box_lawC _ (rmc s (.slice ao n cap)) rfl ?_; intro w1 X9 B9 l9; have HM : Hid (Vr w1 w.heap.size (rmc s (.slice ao n cap))) := X9; have HB : Hid (Below w.heap.size w w1) := B9; clear X9 B9 l9 t0)
  go_loopw [7] (fun iv wr => ∃ k : Nat, k ≤ n ∧ iv = .int .i64 k ∧ Hid (plc ns lb L 0 = plc ns lb (L.drop k) k) ∧ Hid (Vr wr w.heap.size (rmc s (.slice ao n cap))) ∧ Hid (Below w.heap.size w wr)) (fun iv _ => n - (intOf iv).toNat)
  case atStart => exact ⟨0, Nat.zero_le _, rfl, rfl, HM, HB⟩
  case round =>
    clear HM HB
    obtain ⟨k, hk, rfl, HC, HM, HB⟩ := hrel
    have k0 : (0 : Int) ≤ (k : Int) := by omega
    have kw : IntKind.i64.wrap ((k : Int) + 1) = ((k + 1 : Nat) : Int) := by rw [IntKind.wrap_i64]; omega
    have nv : wr.cell? ⟨w.heap.size, 4, none⟩ = some (.slice ao n cap) := HM.out.cell 4 _ rfl
    by_cases hlt : k < n
    · have k1 : (k : Int) < (n : Int) := by omega
      obtain ⟨x, hx⟩ : ∃ x, L[k]? = some x := ⟨_, List.getElem?_eq_getElem (by have := NN.out; omega)⟩
      obtain ⟨g, rfl, hr⟩ := HR.out (by omega)
      have nx := cells16 ((hr.below HB.out) k x hx).1
      have HX : Hid (L[k]? = some x) := hx
      clear hr hx
      by_cases hp : x.n = ns
      · have d1 : decide (x.n = ns) = true := decide_eq_true hp
        have d2 : (x.n == ns) = true := beq_iff_eq.2 hp
        by_cases hq : x.l = lb
        · have d3 : decide (x.l = lb) = true := decide_eq_true hq
          have d4 : (x.l == lb) = true := beq_iff_eq.2 hq
          have CC : Hid (plc ns lb L 0 = (k : Int)) := by show _ = _; rw [HC.out, drop_this HX.out, plc, if_pos ⟨hp, hq⟩]
          go_wp2
          go_ret
          exact ⟨by rw [CC.out]; rfl, HB.out⟩
        · have d3 : decide (x.l = lb) = false := decide_eq_false hq
          have d4 : (x.l == lb) = false := beq_eq_false_iff_ne.2 hq
          have CC : Hid (plc ns lb L 0 = plc ns lb (L.drop (k + 1)) (k + 1)) := by show _ = _; rw [HC.out, drop_this HX.out, plc, if_neg (by intro hh; exact hq hh.2)]
          go_wp2
          go_roundw
          case rel => exact ⟨k + 1, by omega, by go_num, CC, HM, HB⟩
          case measure => simp [intOf]; omega
      · have d1 : decide (x.n = ns) = false := decide_eq_false hp
        have d2 : (x.n == ns) = false := beq_eq_false_iff_ne.2 hp
        have CC : Hid (plc ns lb L 0 = plc ns lb (L.drop (k + 1)) (k + 1)) := by show _ = _; rw [HC.out, drop_this HX.out, plc, if_neg (by intro hh; exact hp hh.1)]
        go_wp2
        go_roundw
        case rel => exact ⟨k + 1, by omega, by go_num, CC, HM, HB⟩
        case measure => simp [intOf]; omega
    · have k1 : ¬ (k : Int) < (n : Int) := by omega
      go_wp2
      go_ret
      refine ⟨?_, HB.out⟩
      rw [HC.out, List.drop_eq_nil_of_le (by have := NN.out; omega)]
      rfl
end Go.Proofs.Ytedmmpognhpbdaa.pm
