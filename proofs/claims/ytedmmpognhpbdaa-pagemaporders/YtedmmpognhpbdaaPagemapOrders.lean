/- Spots of unlike heads, put in any order, and some of them twice, leave each sector the same spot at last. Conditions: at most 12 spots and 30 places of the order (else only that the program answers). -/
import Derived.Test.YtedmmpognhpbdaaJOb
namespace Go.Proofs.Ytedmmpognhpbdaa.pagemapOrders
open Go.ChangeShapes Go.WideShapes Go.ChangeAt Go.RowKit
set_option maxRecDepth 20000

open Go.Proofs.Ytedmmpognhpbdaa.pm Go.Proofs.Ytedmmpognhpbdaa.he

theorem cells14 {w : World} {b q : Nat} {x : Sp} (h : w.rangeAt b q x.cs) : w.cell? ⟨b, q, none⟩ = some (.int .i64 x.p.1) ∧ w.cell? ⟨b, q + 1, none⟩ = some (.int .i64 x.p.2) ∧ w.cell? ⟨b, q + 2, none⟩ = some (.int .i64 x.h.k) ∧ w.cell? ⟨b, q + 3, none⟩ = some (.int .i64 x.h.n) ∧ w.cell? ⟨b, q + 4, none⟩ = some (.int .i64 x.h.c) ∧ w.cell? ⟨b, q + 5, none⟩ = some (.int .u32 x.h.l) ∧ w.cell? ⟨b, q + 6, none⟩ = some (.int .u64 x.h.e) ∧ w.cell? ⟨b, q + 7, none⟩ = some (.int .u64 x.h.t) ∧ w.cell? ⟨b, q + 8, none⟩ = some (.int .i64 x.o.k) ∧ w.cell? ⟨b, q + 9, none⟩ = some (.int .i64 x.o.n) ∧ w.cell? ⟨b, q + 10, none⟩ = some (.int .i64 x.o.c) ∧ w.cell? ⟨b, q + 11, none⟩ = some (.int .u32 x.o.l) ∧ w.cell? ⟨b, q + 12, none⟩ = some (.int .u64 x.o.e) ∧ w.cell? ⟨b, q + 13, none⟩ = some (.int .u64 x.o.t) :=
  ⟨h 0 _ rfl, h 1 _ rfl, h 2 _ rfl, h 3 _ rfl, h 4 _ rfl, h 5 _ rfl, h 6 _ rfl, h 7 _ rfl, h 8 _ rfl, h 9 _ rfl, h 10 _ rfl, h 11 _ rfl, h 12 _ rfl, h 13 _ rfl⟩
theorem unl_sn {m : Nat} {q : Nat → Sp} (h : Unl m q) : Unl m (fun i => sn (q i)) := fun i k hi hk hn => h i k hi hk hn
/-- the row behind t of its spots -/
def pr (q : Nat → Sp) (t : Nat) : Nat → Sp := fun i => if i < t then sn (q i) else q i
theorem pr_zero (q : Nat → Sp) : pr q 0 = q := by
  funext i
  unfold pr
  rw [if_neg (Nat.not_lt_zero _)]
theorem pr_at (q : Nat → Sp) (t : Nat) : pr q t t = q t := by
  unfold pr
  rw [if_neg (Nat.lt_irrefl _)]
theorem pr_lt (q : Nat → Sp) {t i : Nat} (h : i < t) : pr q t i = sn (q i) := by
  unfold pr
  rw [if_pos h]
theorem up_part (q : Nat → Sp) (t : Nat) : up (pr q t) t (sn (q t)) = pr q (t + 1) := by
  funext i
  unfold up
  by_cases e : i = t
  · subst e
    rw [if_pos rfl, pr_lt q (Nat.lt_succ_self _)]
  · rw [if_neg e]
    show (if i < t then sn (q i) else q i) = _
    by_cases h : i < t
    · rw [if_pos h, pr_lt q (by omega)]
    · rw [if_neg h]
      unfold pr
      rw [if_neg (by omega)]
abbrev F0 : Nat → Nat → Sp := up (fun _ _ => sp0) 1 (fun _ => sp0)
theorem cnt_F0 (n : Nat) : cnt (on1 n) F0 = fun _ => 0 := (cnt_add (fun _ => 0) (fun _ _ => sp0) (i := 1) (n := n) (by omega) rfl).trans (cnt_none _)
/-- two new maps, side by side -/
structure Nw (w wr : World) (ca Da ba cb Db bb n : Nat) : Prop where
  A : Pm wr ca (on1 Da) (on1 n) F0 (some ba) (cnt (on1 n) F0)
  B : Pm wr cb (on1 Db) (on1 n) F0 (some bb) (cnt (on1 n) F0)
  bl : Below w.heap.size w wr
  la : ∀ k, Own4 ca (on1 Da) (on1 n) (some ba) k → w.heap.size ≤ k
  lb : ∀ k, Own4 cb (on1 Db) (on1 n) (some bb) k → w.heap.size ≤ k
  di : ∀ k, Own4 ca (on1 Da) (on1 n) (some ba) k → ¬ Own4 cb (on1 Db) (on1 n) (some bb) k
theorem own_on {c D n b k : Nat} (h : Own4 c (on1 D) (on1 n) (some b) k) : k = c ∨ k = D ∨ k = b := by
  rcases h with h | ⟨i, _, hs, h⟩ | h
  · exact .inl h
  · by_cases e : i = 1
    · subst e; exact .inr (.inl h)
    · exact absurd hs (by show ¬ 0 < (if i = 1 then n else 0); rw [if_neg e]; omega)
  · exact .inr (.inr (Option.some.inj h).symm)
theorem nw_start {w w1 w2 w3 w4 : World} {ca Da ba cb Db bb n : Nat} (hn : 0 < n)
    (hca : w.heap.size ≤ ca) (hca1 : ca < w1.heap.size) (hcb : w1.heap.size ≤ cb) (hcb1 : cb < w2.heap.size)
    (hDa : w2.heap.size ≤ Da) (hba : w2.heap.size ≤ ba) (hDb : w3.heap.size ≤ Db) (hbb : w3.heap.size ≤ bb) (h23 : w2.heap.size ≤ w3.heap.size)
    (hA : Pm w3 ca (on1 Da) (on1 n) F0 (some ba) (fun _ => 0)) (hB : Pm w4 cb (on1 Db) (on1 n) F0 (some bb) (fun _ => 0))
    (hc : Ch (fun k => k = cb) w3 w4) (hb : Below w.heap.size w w4) : Nw w w4 ca Da ba cb Db bb n := by
  have la3 : ∀ k, k = ca ∨ k = Da ∨ k = ba → k < w3.heap.size := fun k hk => by
    rcases hk with rfl | rfl | rfl
    · exact hA.lt
    · have := hA.dlt (i := 1) (by omega) (by show 0 < n; exact hn); exact this
    · exact (hA.m k rfl).lt
  refine ⟨?_, by rw [cnt_F0]; exact hB, hb, fun k hk => ?_, fun k hk => ?_, fun k hk hk' => ?_⟩
  · rw [cnt_F0]
    refine hA.ch hc fun k hk e => ?_
    have := own_on hk
    omega
  · have := own_on hk; omega
  · have := own_on hk; omega
  · have h1 := own_on hk
    have h2 := own_on hk'
    have h3 := la3 k h1
    omega
theorem mx_none (n : Nat) (Q : Nat → Sp) (j : Nat) : Mx n Q (fun _ => False) j sp0 := .inl ⟨rfl, fun _ h => h.elim⟩
theorem Nw.ob {w wr w' : World} {ca Da ba cb Db bb n m g : Nat} {Q r : Nat → Sp} (h : Nw w wr ca Da ba cb Db bb n) (hb : Below wr.heap.size wr w') (hg : wr.heap.size ≤ g) (hR : Rw 14 Sp.cs w' g 0 m r) : Ob w w' ca Da ba cb Db bb g n m Q r (fun _ => False) (fun _ => False) F0 F0 := by
  refine ⟨⟨h.A.below hb, fun j _ => ?_, fun _ e => e.elim⟩, ⟨h.B.below hb, fun j _ => ?_, fun _ e => e.elim⟩, hR, h.bl.trans (hb.mono h.bl.size), fun k hk => ⟨h.la k hk, ?_⟩, fun k hk => ⟨h.lb k hk, ?_⟩, h.di, Nat.le_trans h.bl.size hg⟩
  · exact mx_none n Q j
  · exact mx_none n Q j
  · have := h.A.olt hk; omega
  · have := h.B.olt hk; omega
theorem put_a {w wr : World} {ca Da ba cb Db bb g n m : Nat} {Q r : Nat → Sp} {S T : Nat → Prop} {f h : Nat → Nat → Sp} (o : Ob w wr ca Da ba cb Db bb g n m Q r S T f h) (hu : Unl m Q) (hn : n ≤ 65535) (t : Nat) (ht : t < m) (hx : Hok (Q t).h) (h1 : (Q t).h.n = 1) : Calls Try.prog 20 #[pt ca, .agg (Q t).cs.toArray] wr fun e w' => ∃ v F, e = .returned v ∧ Ob w w' ca Da ba cb Db bb g n m Q r (fun i => S i ∨ i = t) T F h :=
  (put_ab o.A hu hn ht hx h1).mono fun _ _ ⟨v, F, e, hA, hc⟩ => ⟨v, F, e, o.putA hA hc⟩
theorem put_b {w wr : World} {ca Da ba cb Db bb g n m : Nat} {Q r : Nat → Sp} {S T : Nat → Prop} {f h : Nat → Nat → Sp} (o : Ob w wr ca Da ba cb Db bb g n m Q r S T f h) (hu : Unl m Q) (hn : n ≤ 65535) (t : Nat) (ht : t < m) (hx : Hok (Q t).h) (h1 : (Q t).h.n = 1) : Calls Try.prog 20 #[pt cb, .agg (Q t).cs.toArray] wr fun e w' => ∃ v F, e = .returned v ∧ Ob w w' ca Da ba cb Db bb g n m Q r S (fun i => T i ∨ i = t) f F :=
  (put_ab o.B hu hn ht hx h1).mono fun _ _ ⟨v, F, e, hB, hc⟩ => ⟨v, F, e, o.putB hB hc⟩

theorem mx_same {n : Nat} {Q : Nat → Sp} {S T : Nat → Prop} {j : Nat} {y : Sp} (e : ∀ i, S i ↔ T i) (h : Mx n Q T j y) : Mx n Q S j y := by
  rcases h with ⟨h1, h2⟩ | ⟨i, h1, h2, h3, h4⟩
  · exact .inl ⟨h1, fun i hi => h2 i ((e i).1 hi)⟩
  · exact .inr ⟨i, (e i).2 h1, h2, h3, fun k hk => h4 k ((e k).1 hk)⟩

set_option maxHeartbeats 32000000 in
theorem walk (x0 : Int) (v1 : Value) (m : Nat) (q : Nat → Sp) (v2 : Value) (z : Nat) (p : Nat → Int) (w : World) (hx : 0 ≤ x0 ∧ x0 ≤ 255) (h1 : Sls 14 Sp.cs Sw w v1 m q) (h2 : Sls 1 ic Wd w v2 z p) : Calls Try.prog 6 #[.int .u8 x0, v1, v2] w fun e w' => e = .returned (.bool true) ∧ Below w.heap.size w w' := by
  obtain ⟨N, hN⟩ : ∃ N : Nat, x0.tmod 40 = (N : Int) := ⟨(x0.tmod 40).toNat, by rw [Int.tmod_eq_emod_of_nonneg hx.1]; omega⟩
  have hN9 : N ≤ 39 := by rw [Int.tmod_eq_emod_of_nonneg hx.1] at hN; omega
  have u1 : IntKind.u8.wrap (N : Int) = (N : Int) := by rw [IntKind.wrap_u8]; omega
  have u2 : IntKind.i64.wrap (N : Int) = (N : Int) := by rw [IntKind.wrap_i64]; omega
  obtain ⟨n, hn⟩ : ∃ n : Nat, n = N + 1 := ⟨_, rfl⟩
  have u3 : IntKind.i64.wrap ((N : Int) + 1) = (n : Int) := by rw [IntKind.wrap_i64]; omega
  have HN : Hid (1 ≤ n ∧ n ≤ 40) := ⟨by omega, by omega⟩
  have x1 := hx.1
  have x2 := hx.2
  clear hx hn hN9
  have HS1 : Hid (Sls 14 Sp.cs Sw w v1 m q) := h1
  have HS2 : Hid (Sls 1 ic Wd w v2 z p) := h2
  obtain ⟨ao1, cp1, rfl, _⟩ := h1
  obtain ⟨ao2, cp2, rfl, _⟩ := h2
  by_cases hm : m ≤ 12 ∧ z ≤ 30
  case neg =>
    by_cases hm1 : m ≤ 12
    · have c1 : decide ((m : Int) > 12) = false := decide_eq_false (by omega)
      have c2 : decide ((z : Int) > 30) = true := decide_eq_true (by omega)
      clear hm HS1 HS2 hm1
      go_enter Try.func6, Try.ntmps6
      go_wp2_with (go_at_call 14; refine (awake_any _).mono ?_; rintro e9 w9 ⟨rfl, B9⟩)
      go_ret
      exact ⟨rfl, B9⟩
    · have c1 : decide ((m : Int) > 12) = true := decide_eq_true (by omega)
      clear hm HS1 HS2 hm1
      go_enter Try.func6, Try.ntmps6
      go_wp2_with (go_at_call 14; refine (awake_any _).mono ?_; rintro e9 w9 ⟨rfl, B9⟩)
      go_ret
      exact ⟨rfl, B9⟩
  have c1 : decide ((m : Int) > 12) = false := decide_eq_false (by omega)
  have c2 : decide ((z : Int) > 30) = false := decide_eq_false (by omega)
  obtain ⟨hm1, hz1⟩ := hm
  go_enter Try.func6, Try.ntmps6
  go_wp2
  go_loopw [8, 9] (fun iv jv wr => ∃ i : Nat, i ≤ m ∧ iv = .int .i64 i ∧ Hid (∀ a b, b < a → a < i → ¬ ((q a).h.e = (q b).h.e ∧ (q a).h.t = (q b).h.t)) ∧ Hid (Below w.heap.size w wr)) (fun iv _ _ => m - (intOf iv).toNat)
  case atStart => exact ⟨0, Nat.zero_le _, rfl, fun _ _ _ h => absurd h (Nat.not_lt_zero _), Below.refl _ _⟩
  case round =>
    obtain ⟨i, him, rfl, HU, HB⟩ := hrel
    have i0 : (0 : Int) ≤ (i : Int) := by omega
    by_cases hlt : i < m
    · have i1 : (i : Int) < (m : Int) := by omega
      go_wp2
      go_loopw [9] (fun jv wq => ∃ j : Nat, j ≤ i ∧ jv = .int .i64 j ∧ Hid (∀ b, b < j → ¬ ((q i).h.e = (q b).h.e ∧ (q i).h.t = (q b).h.t)) ∧ Hid (Below w.heap.size w wq)) (fun jv _ => i - (intOf jv).toNat)
      case atStart => exact ⟨0, Nat.zero_le _, rfl, fun _ h => absurd h (Nat.not_lt_zero _), HB⟩
      case round =>
        clear HB
        obtain ⟨j, hji, rfl, HV, HB⟩ := hrel
        have j0 : (0 : Int) ≤ (j : Int) := by omega
        by_cases hl2 : j < i
        · have j1 : (j : Int) < (i : Int) := by omega
          have j2 : (j : Int) < (m : Int) := by omega
          obtain ⟨ao', cap', hv, _, _, _, hc0⟩ := HS1.out
          obtain ⟨b, off, rfl, hc⟩ := hc0 (by omega)
          cases hv
          have nx := cells14 (range_heap (hc i hlt) (HB.out.block b (range_lt (hc i hlt) (Nat.succ_pos _))))
          have ny := cells14 (range_heap (hc j (by omega)) (HB.out.block b (range_lt (hc j (by omega)) (Nat.succ_pos _))))
          clear hc hc0
          by_cases he : (q i).h.e = (q j).h.e
          · have e3 : ((q i).h.e == (q j).h.e) = true := beq_iff_eq.2 he
            have e4 : decide ((q i).h.e = (q j).h.e) = true := decide_eq_true he
            by_cases ht : (q i).h.t = (q j).h.t
            · have e5 : ((q i).h.t == (q j).h.t) = true := beq_iff_eq.2 ht
              have e6 : decide ((q i).h.t = (q j).h.t) = true := decide_eq_true ht
              clear HV he ht
              go_wp2
              go_quiet (fail)
              have HB : Hid (Below w.heap.size w (wr.drewN nq)) := below_dr HB.out _
              clear nx ny
              go_wp2_with (go_at_call 14; refine (awake_any _).mono ?_; rintro e9 w9 ⟨rfl, B9⟩)
              go_ret
              exact ⟨rfl, HB.out.trans (B9.mono HB.out.size)⟩
            · have e5 : ((q i).h.t == (q j).h.t) = false := beq_eq_false_iff_ne.2 ht
              have e6 : decide ((q i).h.t = (q j).h.t) = false := decide_eq_false ht
              have HE : Hid (¬ ((q i).h.e = (q j).h.e ∧ (q i).h.t = (q j).h.t)) := fun h => ht h.2
              clear he ht
              go_wp2
              go_quiet (fail)
              clear nx ny
              go_wp2
              go_roundw
              case rel => exact ⟨j + 1, by omega, by go_num, fun b hb => by rcases Nat.lt_succ_iff_lt_or_eq.1 hb with h | h; exact HV.out b h; subst h; exact HE.out, below_dr HB.out _⟩
              case measure => simp [intOf]; omega
          · have e3 : ((q i).h.e == (q j).h.e) = false := beq_eq_false_iff_ne.2 he
            have e4 : decide ((q i).h.e = (q j).h.e) = false := decide_eq_false he
            have HE : Hid (¬ ((q i).h.e = (q j).h.e ∧ (q i).h.t = (q j).h.t)) := fun h => he h.1
            clear he
            go_wp2
            go_quiet (fail)
            clear nx ny
            go_wp2
            go_roundw
            case rel => exact ⟨j + 1, by omega, by go_num, fun b hb => by rcases Nat.lt_succ_iff_lt_or_eq.1 hb with h | h; exact HV.out b h; subst h; exact HE.out, below_dr HB.out _⟩
            case measure => simp [intOf]; omega
        · have j1 : ¬ (j : Int) < (i : Int) := by omega
          go_wp2
          go_roundw
          case rel => exact ⟨i + 1, by omega, by go_num, fun a b hba ha => by rcases Nat.lt_succ_iff_lt_or_eq.1 ha with h | h; exact HU.out a b hba h; subst h; exact HV.out b (by omega), HB⟩
          case measure => simp [intOf]; omega
    · have i1 : ¬ (i : Int) < (m : Int) := by omega
      have UN : Hid (Unl m q) := fun a b ha hb hab h => by
        rcases Nat.lt_or_gt_of_ne hab with h2 | h2
        · exact HU.out b a h2 (by omega) ⟨h.1.symm, h.2.symm⟩
        · exact HU.out a b h2 (by omega) h
      clear HU
      have t0 : (0 : Nat) = 0 := rfl
      go_wp2_with (first
        | (have qq := t5; refine copy_lawS _ rfl (.tmp 86) (.tmp 87) rfl w4.heap.size w4.heap.size (Nat.le_trans (Nat.le_refl _) B5.out.size) _ m q rfl rfl R5.out (HS1.out.below (e := Sp.cs) (fun x => (Nat.succ_pos 13 : 0 < 14)) (NN.out.bl.trans (B5.out.mono NN.out.bl.size))) (by omega) ?_; intro g cg w6 R9 l9 m9 G9; have HO : Hid (Ob w w6 ca Da ba cb Db bb g n m (fun i => sn (q i)) (pr q 0) (fun _ => False) (fun _ => False) F0 F0) := NN.out.ob (B5.out.trans ((Below.refl w4.heap.size w5).grown G9 B5.out.size (fun k hk => by cases hk; exact Nat.le_refl _))) l9 (by rw [pr_zero]; exact R9); clear R9 l9 m9 G9 B5 R5 NN t5; have t6 : (0 : Nat) = 0 := rfl)
        | (have qq := t4; refine nil_lawS _ rfl rfl ?_; intro w5 R9 B9; have R5 : Hid (w5.ownsRow w4.heap.size 37 14 (.slice (some ⟨w4.heap.size, 0, none⟩) 0 0) 0 []) := R9; have B5 : Hid (Below w4.heap.size w4 w5) := B9; clear R9 B9 t4; have t5 : (0 : Nat) = 0 := rfl)
        | (have qq := t3; go_at_call 19; refine (add_yes cb 1 n none _ _ _ _ _ PB.out (by omega) HN.out.1 (by have := HN.out.2; omega) rfl).mono ?_; rintro e w4 ⟨Db, bb, rfl, p4, c4, hD, hb⟩; have NN : Hid (Nw w w4 ca Da ba cb Db bb n) := nw_start (by have := HN.out.1; omega) LA.out.1 LA.out.2 LB.out.1 LB.out.2 LC.out.1 LC.out.2 hD (by rcases hb with h | h; cases h; exact h) L23.out PA.out p4 c4 (B3.out.trans (c4.below B3.out.size (fun k hk => by have := LA.out; have := LB.out.1; omega))); clear p4 c4 hD hb PA PB LA LB LC L23 B3 t3; have t4 : (0 : Nat) = 0 := rfl)
        | (have qq := t2; go_at_call 19; refine (add_yes ca 1 n none _ _ _ _ _ PA.out (by omega) HN.out.1 (by have := HN.out.2; omega) rfl).mono ?_; rintro e w3 ⟨Da, ba, rfl, p3, c3, hD, hb⟩; have PA : Hid (Pm w3 ca (on1 Da) (on1 n) F0 (some ba) (fun _ => 0)) := p3; have PB : Hid (Pm w3 cb (fun _ => 0) (fun _ => 0) (fun _ _ => sp0) none (fun _ => 0)) := PB.out.ch c3 (fun k hk e => by have := LA.out; have := LB.out.1; rcases hk with h | ⟨_, _, h, _⟩ | h; omega; exact absurd h (Nat.lt_irrefl 0); cases h); have LC : Hid (w2.heap.size ≤ Da ∧ w2.heap.size ≤ ba) := ⟨hD, by rcases hb with h | h; cases h; exact h⟩; have L23 : Hid (w2.heap.size ≤ w3.heap.size) := c3.size; have B3 : Hid (Below w.heap.size w w3) := B2.out.trans (c3.below B2.out.size (fun k hk => by have := LA.out; omega)); clear p3 c3 hD hb B2 t2; have t3 : (0 : Nat) = 0 := rfl)
        | (have qq := t1; go_at_call 8; refine (new_any _).mono ?_; rintro e w2 ⟨cb, rfl, p2, hc, b2⟩; have PA : Hid (Pm w2 ca (fun _ => 0) (fun _ => 0) (fun _ _ => sp0) none (fun _ => 0)) := PA.out.below b2; have PB : Hid (Pm w2 cb (fun _ => 0) (fun _ => 0) (fun _ _ => sp0) none (fun _ => 0)) := p2; have LB : Hid (w1.heap.size ≤ cb ∧ cb < w2.heap.size) := ⟨hc, p2.lt⟩; have B2 : Hid (Below w.heap.size w w2) := B1.out.trans (b2.mono B1.out.size); clear p2 hc b2 B1 t1; have t2 : (0 : Nat) = 0 := rfl)
        | (have qq := t0; go_at_call 8; refine (new_any _).mono ?_; rintro e w1 ⟨ca, rfl, p1, hc, b1⟩; have PA : Hid (Pm w1 ca (fun _ => 0) (fun _ => 0) (fun _ _ => sp0) none (fun _ => 0)) := p1; have LA : Hid (w.heap.size ≤ ca ∧ ca < w1.heap.size) := ⟨Nat.le_trans HB.out.size hc, p1.lt⟩; have B1 : Hid (Below w.heap.size w w1) := HB.out.trans (b1.mono HB.out.size); clear p1 hc b1 t0; have t1 : (0 : Nat) = 0 := rfl))
      clear t6 HB
      have UQ : Hid (Unl m (fun i => sn (q i))) := unl_sn UN.out
      have HK : Hid (∀ t, t < m → Hok (sn (q t)).h) := fun t ht => by
        obtain ⟨_, _, _, _, _, hP, _⟩ := HS1.out
        have := (hP t ht).2.1.2.2.2
        exact ⟨this.1, this.2⟩
      have N9 : Hid (n ≤ 65535) := by have := HN.out.2; show _ ≤ _; omega
      clear UN
      go_loopw [13] (fun iv wr => ∃ (t : Nat) (f : Nat → Nat → Sp), t ≤ m ∧ iv = .int .i64 t ∧ Hid (Ob w wr ca Da ba cb Db bb g n m (fun i => sn (q i)) (pr q t) (fun i => i < t) (fun _ => False) f F0)) (fun iv _ => m - (intOf iv).toNat)
      case atStart => exact ⟨0, F0, Nat.zero_le _, rfl, ⟨⟨HO.out.A.p, fun j _ => mx_same (fun i => ⟨fun h => absurd h (Nat.not_lt_zero _), fun h => h.elim⟩) (mx_none n _ j), fun i h => absurd h (Nat.not_lt_zero _)⟩, HO.out.B, HO.out.R, HO.out.bl, HO.out.la, HO.out.lb, HO.out.di, HO.out.lg⟩⟩
      case round =>
        clear HO
        obtain ⟨t, f, htm, rfl, HO⟩ := hrel
        have k0 : (0 : Int) ≤ (t : Int) := by omega
        by_cases hlt : t < m
        · have k1 : (t : Int) < (m : Int) := by omega
          have HA : Hid (At wr g (t * 14) (q t).cs) := by have z := HO.out.R t hlt; rw [pr_at, Nat.zero_add] at z; exact z
          have t0 : (0 : Nat) = 0 := rfl
          go_wp2_with (first
            | (have qq := t2; go_at_call 20; refine (put_a HO.out UQ.out N9.out t hlt (HK.out t hlt) rfl).mono ?_; rintro e w8 ⟨v8, F8, rfl, ho⟩; have HO : Hid (Ob w w8 ca Da ba cb Db bb g n m (fun i => sn (q i)) (pr q (t + 1)) (fun i => i < t ∨ i = t) (fun _ => False) F8 F0) := ho; clear ho nx t2)
            | (have qq := t0; (with_reducible refine at_store ?_); refine set_lawA _ rfl (.tmp 99) (.const (.int .i64 1)) 3 rfl (q t).cs g (t * 14) 3 (.int .i64 1) rfl rfl HA.out (Nat.lt_of_sub_eq_succ rfl) rfl rfl sz_int ?_; intro w7 A7 W7; have HA : Hid (At w7 g (t * 14) (sn (q t)).cs) := (by rw [sn_set] at A7; exact A7); have HO : Hid (Ob w w7 ca Da ba cb Db bb g n m (fun i => sn (q i)) (pr q (t + 1)) (fun i => i < t) (fun _ => False) f F0) := (by have z := HO.out.own t (sn (q t)) HA.out W7; rw [up_part] at z; exact z); have nx := cells14 HA.out.1; clear A7 W7 t0; have t2 : (0 : Nat) = 0 := rfl))
          go_roundw
          case rel => exact ⟨t + 1, F8, by omega, by go_num, ⟨⟨HO.out.A.p, fun j hj => mx_same (fun i => by show i < t + 1 ↔ _; omega) (HO.out.A.k j hj), fun i h => by have : i < t + 1 := h; omega⟩, HO.out.B, HO.out.R, HO.out.bl, HO.out.la, HO.out.lb, HO.out.di, HO.out.lg⟩⟩
          case measure => simp [intOf]; omega
        · have k1 : ¬ (t : Int) < (m : Int) := by omega
          obtain rfl : t = m := by omega
          have HO0 : Hid (∃ T h, Ob w wr ca Da ba cb Db bb g n t (fun i => sn (q i)) (pr q t) (fun i => i < t) T f h) := ⟨_, _, HO.out⟩
          clear HO
          go_wp2
          go_loopw [14] (fun iv wr => ∃ (k : Nat) (T : Nat → Prop) (h : Nat → Nat → Sp), k ≤ z ∧ iv = .int .i64 k ∧ Hid (Ob w wr ca Da ba cb Db bb g n t (fun i => sn (q i)) (pr q t) (fun i => i < t) T f h)) (fun iv _ => z - (intOf iv).toNat)
          case atStart =>
            obtain ⟨T, h, ho⟩ := HO0.out
            exact ⟨0, T, h, Nat.zero_le _, rfl, ho⟩
          case round =>
            clear HO0
            obtain ⟨k, T, h, hkz, rfl, HO⟩ := hrel
            have k2 : (0 : Int) ≤ (k : Int) := by omega
            by_cases hl2 : k < z
            · have k3 : (k : Int) < (z : Int) := by omega
              obtain ⟨ao', cap', hv, _, _, _, hc0⟩ := HS2.out
              obtain ⟨b2, off2, rfl, hc⟩ := hc0 (by omega)
              cases hv
              have nc : wr.cell? ⟨b2, off2 + k, none⟩ = some (.int .i64 (p k)) := by
                have z := range_heap (hc k hl2) (HO.out.bl.block b2 (range_lt (hc k hl2) (Nat.succ_pos 0))) 0 _ rfl
                rw [Nat.mul_one] at z
                exact z
              clear hc hc0
              by_cases hp : 0 ≤ p k ∧ p k < t
              · obtain ⟨r, hr⟩ : ∃ r : Nat, p k = (r : Int) := ⟨(p k).toNat, by omega⟩
                rw [hr] at nc hp
                clear hr
                have hrt : r < t := by omega
                have r1 : (r : Int) < (t : Int) := by omega
                have r2 : (r : Int) ≥ 0 := by omega
                have d1 : decide ((r : Int) ≥ 0) = true := decide_eq_true r2
                have HA : Hid (At wr g (r * 14) (sn (q r)).cs) := by have z := HO.out.R r hrt; rw [pr_lt q hrt, Nat.zero_add] at z; exact z
                have nx := cells14 HA.out.1
                clear hp HA
                have t0 : (0 : Nat) = 0 := rfl
                go_wp2_with (have qq := t0; go_at_call 20; refine (put_b HO.out UQ.out N9.out r hrt (HK.out r hrt) rfl).mono ?_; rintro e w8 ⟨v8, F8, rfl, ho⟩; have HO : Hid (Ob w w8 ca Da ba cb Db bb g n t (fun i => sn (q i)) (pr q t) (fun i => i < t) (fun i => T i ∨ i = r) f F8) := ho; clear ho nx nc t0)
                go_roundw
                case rel => exact ⟨k + 1, _, F8, by omega, by go_num, HO⟩
                case measure => simp [intOf]; omega
              · by_cases hp0 : 0 ≤ p k
                · have d1 : decide (p k ≥ 0) = true := decide_eq_true hp0
                  have d2 : ¬ p k < (t : Int) := fun h => hp ⟨hp0, h⟩
                  have d3 : decide (p k < (t : Int)) = false := decide_eq_false d2
                  have d4 : p k ≥ 0 := hp0
                  clear hp hp0
                  go_wp2
                  go_roundw
                  case rel => exact ⟨k + 1, T, h, by omega, by go_num, HO⟩
                  case measure => simp [intOf]; omega
                · have d1 : decide (p k ≥ 0) = false := decide_eq_false hp0
                  have d4 : ¬ p k ≥ 0 := hp0
                  clear hp hp0
                  go_wp2
                  go_roundw
                  case rel => exact ⟨k + 1, T, h, by omega, by go_num, HO⟩
                  case measure => simp [intOf]; omega
            · have k3 : ¬ (k : Int) < (z : Int) := by omega
              have d0 : IntKind.i64.wrap ((t : Int) - 1) = (t : Int) - 1 := by rw [IntKind.wrap_i64]; omega
              have HO0 : Hid (∃ T h, Ob w wr ca Da ba cb Db bb g n t (fun i => sn (q i)) (pr q t) (fun i => i < t) T f h) := ⟨_, _, HO.out⟩
              clear HO
              go_wp2
              go_loopw [15] (fun iv wr => ∃ (s : Nat) (y : Int) (T : Nat → Prop) (h : Nat → Nat → Sp), s ≤ t ∧ Hid (y = (s : Int) - 1) ∧ iv = .int .i64 y ∧ Hid (∀ i, s ≤ i → i < t → T i) ∧ Hid (Ob w wr ca Da ba cb Db bb g n t (fun i => sn (q i)) (pr q t) (fun i => i < t) T f h)) (fun iv _ => (intOf iv + 1).toNat)
              case atStart =>
                obtain ⟨T, h, ho⟩ := HO0.out
                exact ⟨t, _, T, h, Nat.le_refl _, rfl, rfl, fun i h1 h2 => absurd h2 (by omega), ho⟩
              case round =>
                clear HO0
                obtain ⟨s, y, T, h, hst, HY, rfl, HT, HO⟩ := hrel
                by_cases hy : 0 ≤ y
                · obtain ⟨r, rfl⟩ : ∃ r : Nat, y = (r : Int) := ⟨y.toNat, by omega⟩
                  have hrt : r < t := by have := HY.out; omega
                  have r1 : (r : Int) < (t : Int) := by omega
                  have r2 : (r : Int) ≥ 0 := by omega
                  have r3 : IntKind.i64.wrap ((r : Int) - 1) = (r : Int) - 1 := by rw [IntKind.wrap_i64]; omega
                  have d1 : decide ((r : Int) ≥ 0) = true := decide_eq_true r2
                  have HA : Hid (At wr g (r * 14) (sn (q r)).cs) := by have z := HO.out.R r hrt; rw [pr_lt q hrt, Nat.zero_add] at z; exact z
                  have nx := cells14 HA.out.1
                  clear HA hy
                  have t0 : (0 : Nat) = 0 := rfl
                  go_wp2_with (have qq := t0; go_at_call 20; refine (put_b HO.out UQ.out N9.out r hrt (HK.out r hrt) rfl).mono ?_; rintro e w8 ⟨v8, F8, rfl, ho⟩; have HO : Hid (Ob w w8 ca Da ba cb Db bb g n t (fun i => sn (q i)) (pr q t) (fun i => i < t) (fun i => T i ∨ i = r) f F8) := ho; clear ho nx t0)
                  go_roundw
                  case rel => exact ⟨r, _, _, F8, by omega, rfl, rfl, fun i h1 h2 => by by_cases e : i = r; exact .inr e; exact .inl (HT.out i (by have := HY.out; omega) h2), HO⟩
                  case measure => simp [intOf]
                · have d1 : ¬ y ≥ 0 := hy
                  have d2 : decide (y ≥ 0) = false := decide_eq_false d1
                  have HT2 : Hid (∀ i, i < t → T i) := fun i hi => HT.out i (by have := HY.out; omega) hi
                  clear HT HY hy
                  go_wp2
                  go_loopw [16, 17, 18, 19, 20] (fun iv _ _ _ _ wr => ∃ j : Nat, j ≤ n ∧ iv = .int .i64 j ∧ Hid (Ob w wr ca Da ba cb Db bb g n t (fun i => sn (q i)) (pr q t) (fun i => i < t) T f h)) (fun iv _ _ _ _ _ => n - (intOf iv).toNat)
                  case atStart => exact ⟨0, Nat.zero_le _, rfl, HO⟩
                  case round =>
                    clear HO
                    obtain ⟨j, hjn, rfl, HO⟩ := hrel
                    have j0 : (0 : Int) ≤ (j : Int) := by omega
                    by_cases hl3 : j < n
                    · have j1 : (j : Int) < (n : Int) := by omega
                      have n9 : (n : Int) ≤ 40 := by have := HN.out.2; omega
                      have YY : Hid (h 1 j = f 1 j) := mx_one (fun i => ⟨fun hi => HO.out.B.z i hi, fun hi => HT2.out i hi⟩) (fun i => Iff.rfl) (HO.out.B.k j hl3) (HO.out.A.k j hl3)
                      have GA : Hid (∀ W, Below wr.heap.size wr W → Calls Try.prog 21 #[pt ca, .int .i64 1, .int .i64 (j : Int)] W fun e w' => e = .returned (.tuple #[.agg (f 1 j).cs.toArray, .bool (lv (f 1 j))]) ∧ Below W.heap.size W w') := fun W hW => get_yes ca (some ba) (on1 Da) (on1 n) f _ 1 j W (HO.out.A.p.below hW) (by omega) hl3
                      have GB : Hid (∀ W, Below wr.heap.size wr W → Calls Try.prog 21 #[pt cb, .int .i64 1, .int .i64 (j : Int)] W fun e w' => e = .returned (.tuple #[.agg (f 1 j).cs.toArray, .bool (lv (f 1 j))]) ∧ Below W.heap.size W w') := fun W hW => by
                        rw [← YY.out]
                        exact get_yes cb (some bb) (on1 Db) (on1 n) h _ 1 j W (HO.out.B.p.below hW) (by omega) hl3
                      clear YY
                      generalize f 1 j = y9 at GA GB
                      generalize hb9 : lv y9 = b9 at GA GB
                      clear hb9
                      have bb9 : (b9 != b9) = false := by cases b9 <;> rfl
                      have eq9 : ∀ W, (Op.equalIn 10000 37 (.agg y9.cs.toArray) (.agg y9.cs.toArray)).run Try.prog W = .ok true W := fun W => eql_spot y9 W
                      have gd9 : Try.prog.eqGuardType Try.prog.depth 37 = false := by kernel_rfl
                      have WW : Hid (Below wr.heap.size wr wr) := Below.refl _ _
                      have t0 : (0 : Nat) = 0 := rfl
                      go_wp2_with (first
                        | (have qq := t4; (with_reducible refine at_store ?_); refine store_lawC _ y9.cs wf.heap.size 0 rfl rfl VZ.out.2 size_spot y9.one ?_; intro w8 _ X8 Y8 B8; have VB : Hid (Vr w8 wf.heap.size y9.cs) := ⟨X8, Y8⟩; have VA : Hid (Vr w8 wc.heap.size y9.cs) := VA.out.below (B5.out.trans B8) LA.out; have WW : Hid (Below wr.heap.size wr w8) := WW.out.trans ((B5.out.trans B8).mono WW.out.size); have nx := cells0 VA.out.1; have ny := cells0 VB.out.1; clear X8 Y8 B8 VZ B5 t4)
                        | (have qq := t3; (with_reducible refine at_alloc ?_); refine new_lawC _ sp0.cs zero_spot ?_; intro w7 X7 b7 l7; have VZ : Hid (Vr w7 wf.heap.size sp0.cs) := X7; have B5 : Hid (Below wf.heap.size wf w7) := b7; clear X7 b7 l7 t3; have t4 : (0 : Nat) = 0 := rfl)
                        | (have qq := t20; go_at_call 21; refine (GB.out _ WW.out).mono ?_; rintro e wf ⟨rfl, b6⟩; have VA : Hid (Vr wf wc.heap.size y9.cs) := VA.out.below b6 LA.out; have LA : Hid (wc.heap.size < wf.heap.size) := Nat.lt_of_lt_of_le LA.out b6.size; have WW : Hid (Below wr.heap.size wr wf) := WW.out.trans (b6.mono WW.out.size); clear b6 t20; have t3 : (0 : Nat) = 0 := rfl)
                        | (have qq := t2; (with_reducible refine at_store ?_); refine store_lawC _ y9.cs wc.heap.size 0 rfl rfl VZ.out.2 size_spot y9.one ?_; intro we _ X8 Y8 B8; have VA : Hid (Vr we wc.heap.size y9.cs) := ⟨X8, Y8⟩; have LA : Hid (wc.heap.size < we.heap.size) := range_lt X8 (Nat.succ_pos _); have WW : Hid (Below wr.heap.size wr we) := WW.out.trans ((B5.out.trans B8).mono WW.out.size); clear X8 Y8 B8 VZ B5 t2; have t20 : (0 : Nat) = 0 := rfl)
                        | (have qq := t1; (with_reducible refine at_alloc ?_); refine new_lawC _ sp0.cs zero_spot ?_; intro wd X7 b7 l7; have VZ : Hid (Vr wd wc.heap.size sp0.cs) := X7; have B5 : Hid (Below wc.heap.size wc wd) := b7; clear X7 b7 l7 t1; have t2 : (0 : Nat) = 0 := rfl)
                        | (have qq := t0; go_at_call 21; refine (GA.out _ WW.out).mono ?_; rintro e wc ⟨rfl, b6⟩; have WW : Hid (Below wr.heap.size wr wc) := WW.out.trans (b6.mono WW.out.size); clear b6 t0; have t1 : (0 : Nat) = 0 := rfl))
                      go_roundw
                      case rel => exact ⟨j + 1, by omega, by go_num, HO.out.below WW.out⟩
                      case measure => simp [intOf]; omega
                    · have j1 : ¬ (j : Int) < (n : Int) := by omega
                      go_wp2_with (go_at_call 14; refine (awake_any _).mono ?_; rintro e9 w9 ⟨rfl, B9⟩)
                      go_ret
                      exact ⟨rfl, HO.out.bl.trans (B9.mono HO.out.bl.size)⟩

theorem params : ∀ t ∈ Try.f6.params.toList, Try.prog.readableRec t = true ∧ t < Try.prog.types.size := by
  rw [Try.params6]
  intro t ht
  simp at ht
  rcases ht with rfl | rfl | rfl
  · exact ⟨by kernel_rfl, of_decide_eq_true (by kernel_rfl)⟩
  · exact ⟨by kernel_rfl, of_decide_eq_true (by kernel_rfl)⟩
  · exact ⟨by kernel_rfl, of_decide_eq_true (by kernel_rfl)⟩

theorem contract (H : Type) (enc : TypeId × Value → H) (W : World) (base : Nat) (args : Array Value) (ds gs : List (DataW H)) (before : List MemPlace)
    (hval : ∀ (j : Nat) t v, Try.f6.params[j]? = some t → args[j]? = some v → Value.okWide Try.prog W .any base t v)
    (hW : DataW.Whole enc Try.prog Try.f6.params.toList Rows.pagemapOrdersSpec.vars false W args.toList ds gs before) :
    Calls Try.prog 6 args W fun e W' => ∃ v, e = .returned v ∧ Rows.pagemapOrdersSpec.post enc Try.prog Try.f6 false true false false W args v W' := by
  have hW' := hW
  obtain ⟨p, q, hA0, hV, rfl, hfz, hnd⟩ := hW
  have hA : DataW.TrodAll enc Try.prog W 0 (fun _ => true) true Try.f6.params.toList args.toList ds p := hA0
  rw [Try.params6] at hA hval
  obtain ⟨v0, v1, v2, d0, d1, d2, p0, p1, p2, rfl, rfl, rfl, h0, h1, h2⟩ := trodAll_three hA
  obtain ⟨rfl, rfl⟩ := trodVars_none hV
  obtain ⟨x0, rfl, rfl, rfl, w0⟩ := open_int Try.underlying5 (hval 0 5 v0 rfl rfl) h0
  obtain ⟨sm1, sq1, b1⟩ := pm.spots_open (hval 1 47 v1 rfl rfl) h1
  obtain ⟨sm2, sq2, b2⟩ := pm.ints_open (hval 2 56 v2 rfl rfl) h2
  clear hA0
  refine (walk x0 v1 sm1 sq1 v2 sm2 sq2 W (bounds_u8 w0) b1 b2).mono fun e W' ⟨he, hg⟩ => ?_
  subst he
  exact ⟨_, rfl, post_law rfl (by kernel_rfl) params rfl rfl rfl hW' hg⟩

theorem laid_met (os : Os) : laidMet Try.prog Rows.pagemapOrdersRow.laid ((World.holding Try.prog os ⟨#[], #[], []⟩).forCall (fun _ _ => 0) ⟨#[], #[.int .u8 0, .slice none 0 0, .slice none 0 0], []⟩).memory :=
  laidMet_of_run' 8 (by kernel_rfl) (by kernel_rfl)
theorem reads (os : Os) {H : Type} (enc : TypeId × Value → H) : ∃ places, DataW.whole enc Try.prog ((World.holding Try.prog os ⟨#[], #[], []⟩).forCall (fun _ _ => 0) ⟨#[], #[.int .u8 0, .slice none 0 0, .slice none 0 0], []⟩).memory Try.f6.params.toList Rows.pagemapOrdersSpec.vars false #[Value.int .u8 0, Value.slice none 0 0, Value.slice none 0 0].toList 8 = some ([.lit (.int .u8 0), .nil, .nil], [], places) :=
  ⟨[], by kernel_rfl⟩

set_option maxRecDepth 100000 in
theorem lifted (os : Os) (started : os.Started) (H : Type) (enc : TypeId × Value → H) (F : Stop.Interp) :
    ReturnsInHanded {} Try.checked os 6 .any ((OpenSpec.ofChange Rows.pagemapOrdersSpec).preRow enc Try.prog Try.f6 Rows.pagemapOrdersRow.domain false Rows.pagemapOrdersRow.laid) (((OpenSpec.ofChange Rows.pagemapOrdersSpec).at F).post enc Try.prog Try.f6 false true false false) := by
  obtain ⟨places, hx⟩ := reads os enc
  refine returnsInHanded_of_row (C := Try.checked) (s := OpenSpec.ofChange Rows.pagemapOrdersSpec) own started (by kernel_rfl) Try.func6
    (witness_row_at (enc := enc) (C := Try.checked) false (World.holding Try.prog os ⟨#[], #[], []⟩) #[.int .u8 0, .slice none 0 0, .slice none 0 0] rfl (by kernel_rfl) (by kernel_rfl) (by kernel_rfl)
      (OpenSpec.preRow_of_cond 8 hx (by kernel_rfl) (fun k hk => by cases hk) (by kernel_rfl) (laid_met os))) ?_
  intro W base args ds gs before hval hW _ _ _ _ _ _
  exact contract H enc W base args ds gs before hval hW

theorem said : Rows.PagemapOrdersSaid :=
  OpenClaim.holds_of_cond 6 Try.f6 rfl rfl rfl rfl rfl rfl rfl ⟨rfl, rfl, rfl, rfl, rfl⟩ rfl rfl rfl rfl rfl (by kernel_rfl) Try.func6 (by kernel_rfl)
    (of_decide_eq_true (by kernel_rfl)) (by unfold Func.isWrapper; first | (rw [if_pos (by decide +kernel)]; kernel_rfl) | (rw [if_neg (by decide +kernel)]; exact ⟨rfl, rfl⟩))
    (fun os started H enc _ F => by rw [OpenClaim.pre_eq_preRow]; exact lifted os started H enc F)
end Go.Proofs.Ytedmmpognhpbdaa.pagemapOrders

namespace Go.Proofs.Ytedmmpognhpbdaa
theorem pagemapOrders_said : Rows.PagemapOrdersSaid := pagemapOrders.said
#print axioms pagemapOrders_said
end Go.Proofs.Ytedmmpognhpbdaa
