/- What the reference's gone answers. No claim of its own. -/
import Derived.Test.YtedmmpognhpbdaaJGa
namespace Go.Proofs.Ytedmmpognhpbdaa.pm
open Go.RowKit Go.Proofs.Ytedmmpognhpbdaa.he
set_option maxRecDepth 20000

/-- a place is put in, in order -/
def ins (p : PL) : List PL → List PL
  | [] => [p]
  | q :: t => if ltp q p = true then q :: ins p t else p :: q :: t
theorem ins_at (p : PL) : ∀ (l : List PL) (a : Nat), a ≤ l.length → (∀ j q, j < a → l[j]? = some q → ltp q p = true) → (∀ q, l[a]? = some q → ltp q p = false) → ins p l = l.take a ++ p :: l.drop a
  | [], a, _, _, _ => by simp [ins]
  | q :: t, 0, _, _, h2 => by
    have := h2 q rfl
    simp [ins, this]
  | q :: t, a + 1, h0, h1, h2 => by
    have e := h1 0 q (by omega) rfl
    have z := ins_at p t a (by simpa using h0) (fun j r hj hr => h1 (j + 1) r (by omega) (by simpa using hr)) (fun r hr => h2 r (by simpa using hr))
    simp [ins, e, z]
def gst (L2 : List Ce) (l : List PL) (p : PL) : List PL := if 0 < L2.countP (atp p) ∨ p ∈ l then l else ins p l
/-- the places that are live in L and not in L2, in order -/
def gn (L2 L : List Ce) : List PL := L.foldl (fun l c => gst L2 l c.s.p) []
theorem gn_more {L2 L : List Ce} {k : Nat} {x : Ce} (h : L[k]? = some x) : gn L2 (L.take (k + 1)) = gst L2 (gn L2 (L.take k)) x.s.p := by
  unfold gn
  rw [take_more h, List.foldl_append]
  rfl
theorem ins_len (p : PL) : ∀ l, (ins p l).length = l.length + 1
  | [] => rfl
  | q :: t => by
    unfold ins
    split
    · simp [ins_len p t]
    · simp
theorem gst_len (L2 : List Ce) (l : List PL) (p : PL) : (gst L2 l p).length ≤ l.length + 1 := by
  unfold gst
  split
  · omega
  · rw [ins_len]; omega
theorem gn_len (L2 L : List Ce) : ∀ k, (gn L2 (L.take k)).length ≤ k
  | 0 => Nat.le_refl _
  | k + 1 => by
    cases h : L[k]? with
    | none =>
      have e : L.take (k + 1) = L.take k := by rw [List.take_add_one, h]; simp
      rw [e]
      have := gn_len L2 L k
      omega
    | some x =>
      rw [gn_more h]
      have := gst_len L2 (gn L2 (L.take k)) x.s.p
      have := gn_len L2 L k
      omega
theorem blk_mk {g q m c k : Nat} (h : Blk (.slice (some ⟨g, q, none⟩) m c) k) : k = g := (Option.some.inj h).symm
/-- where gone stands: the two maps, what is out so far -/
structure Gs (w wr : World) (A C : Nat) (c1 c2 : List Value) (v : Value) (l : List PL) : Prop where
  a : Vr wr A c1
  b : Vr wr C c2
  o : Os w.heap.size wr v l
  h : Below w.heap.size w wr
  na : ∀ k, Blk v k → k ≠ A ∧ k ≠ C
  l1 : 0 < c1.length
  l2 : 0 < c2.length
theorem Gs.below {w wr w' : World} {A C : Nat} {c1 c2 : List Value} {v : Value} {l : List PL} (h : Gs w wr A C c1 c2 v l) (hb : Below wr.heap.size wr w') : Gs w w' A C c1 c2 v l :=
  ⟨h.a.below hb (range_lt h.a.1 h.l1), h.b.below hb (range_lt h.b.1 h.l2), h.o.below hb, h.h.trans (hb.mono h.h.size), h.na, h.l1, h.l2⟩
theorem Os.out {B : Nat} {w : World} {v : Value} {l : List PL} (h : Os B w v l) : Pls w v l := by
  obtain ⟨g, cap, rfl, ho⟩ := h
  have z := ow_row ho
  exact ⟨_, cap, rfl, z.2.2.2.2.1, z.2.2.2.2.2, fun _ => ⟨g, rfl, z.1⟩⟩
theorem Os.up {B C : Nat} {w : World} {v : Value} {l : List PL} (h : Os B w v l) (hc : C ≤ B) : Os C w v l := by
  obtain ⟨g, cap, e, h1, h2⟩ := h
  refine ⟨g, cap, e, h1, ?_⟩
  rcases h2 with h2 | ⟨g', cap', cur, e', hB, h3⟩
  · exact .inl h2
  · exact .inr ⟨g', cap', cur, e', Nat.le_trans hc hB, h3⟩
/-- what is appended to is another row -/
theorem Gs.grown {w wr w' : World} {A C : Nat} {c1 c2 : List Value} {v u : Value} {l : List PL} (h : Gs w wr A C c1 c2 v l) (hg : wr.grownBy w' u.ownBlock) (hu : ∀ k, Blk u k → w.heap.size ≤ k ∧ k ≠ A ∧ k ≠ C ∧ ¬ Blk v k) : Gs w w' A C c1 c2 v l := by
  refine ⟨h.a.heap (hg.block A (range_lt h.a.1 h.l1) fun e => (hu A e.symm).2.1 rfl), h.b.heap (hg.block C (range_lt h.b.1 h.l2) fun e => (hu C e.symm).2.2.1 rfl), ?_, h.h.grown hg h.h.size fun k hk => (hu k hk).1, h.na, h.l1, h.l2⟩
  obtain ⟨g, cap, rfl, ho⟩ := h.o
  exact Os.ch (P := fun k => Blk u k) ⟨g, cap, rfl, ho⟩ ⟨hg.os, hg.tape, hg.output, hg.size, fun k hk hn => hg.block k hk fun e => hn e.symm⟩ fun k hk e => (hu k e).2.2.2 hk
theorem Gs.rl {w wr : World} {A C : Nat} {c1 c2 : List Value} {G ll cG : Nat} {l : List PL} (h : Gs w wr A C c1 c2 (.slice (some ⟨G, 0, none⟩) ll cG) l) (_ : ll = l.length) (j : Nat) (y : PL) (hy : l[j]? = some y) : At wr G (j * 2) (pc y) := by
  obtain ⟨g, cap, e, ho⟩ := h.o
  cases e
  exact (ow_row ho).1 j y hy
theorem Gs.dr {w wr : World} {A C : Nat} {c1 c2 : List Value} {G ll cG a : Nat} {l : List PL} {vx : Value} (h : Gs w wr A C c1 c2 (.slice (some ⟨G, 0, none⟩) ll cG) l) (e1 : ll = l.length) (ha : a ≤ ll) (hv : vx = sliced (some ⟨G, 0, none⟩) a ll cG 2) : Sr wr vx (l.drop a) := by
  obtain ⟨g, cap, e, ho⟩ := h.o
  cases e
  have z := ow_row ho
  exact Sr.drop z.1 a ha z.2.2.2.2.1 hv
theorem Gs.tk {w wr : World} {A C : Nat} {c1 c2 : List Value} {G ll cG a : Nat} {l : List PL} (h : Gs w wr A C c1 c2 (.slice (some ⟨G, 0, none⟩) ll cG) l) (e1 : ll = l.length) (ha : a ≤ ll) : Sr wr (.slice (some ⟨G, 0, none⟩) a cG) (l.take a) := by
  obtain ⟨g, cap, e, ho⟩ := h.o
  cases e
  exact Sr.take (ow_row ho).1 a (by omega)
theorem Gs.swap {w wr w' : World} {A C B : Nat} {c1 c2 : List Value} {v u v' : Value} {l l' l2 : List PL} (h : Gs w wr A C c1 c2 v l) (hg : wr.grownBy w' u.ownBlock) (ho : Os B w' v' l2) (hu : ∀ k, Blk u k → B ≤ k) (hw : w.heap.size ≤ B) (hA : A < B) (hC : C < B) (he : l2 = l') : Gs w w' A C c1 c2 v' l' := by
  subst he
  refine ⟨h.a.heap (hg.block A (range_lt h.a.1 h.l1) fun e => by have := hu A e.symm; omega), h.b.heap (hg.block C (range_lt h.b.1 h.l2) fun e => by have := hu C e.symm; omega), ho.up hw, h.h.grown hg h.h.size fun k hk => by have := hu k hk; omega, fun k hk => ?_, h.l1, h.l2⟩
  have := (ho.low hk).1
  omega
set_option maxHeartbeats 16000000 in
theorem rgone_any (s1 s2 : Nat → Nat) (v1 v2 : Value) (L1 L2 : List Ce) (w : World) (h1 : Cl w v1 L1) (h2 : Cl w v2 L2) (hn : L1.length ≤ 100000) (hn2 : L2.length ≤ 100000) : Calls Try.prog 50 #[.agg (rmc s1 v1).toArray, .agg (rmc s2 v2).toArray] w fun e w' => ∃ v, e = .returned v ∧ Pls w' v (gn L2 L1) ∧ (∀ k, Blk v k → w.heap.size ≤ k ∧ k < w'.heap.size) ∧ Below w.heap.size w w' := by
  have RF : Hid (∀ W p, Below w.heap.size w W → Calls Try.prog 12 #[.agg (rmc s2 v2).toArray, .agg (pc p).toArray] W fun e w' => e = .returned (.int .i64 ((L2.countP (atp p) : Nat) : Int)) ∧ Below W.heap.size W w') := fun W p hW => rrefs_any s2 v2 L2 p W (h2.below hW) hn2
  obtain ⟨ao, cap, rfl, hr⟩ := h1
  obtain ⟨n, hN⟩ : ∃ n, n = L1.length := ⟨_, rfl⟩
  have HR : Hid (0 < n → ∃ g, ao = some ⟨g, 0, none⟩ ∧ Rc w g L1) := by rw [hN]; exact hr
  have NN : Hid (n = L1.length) := hN
  rw [← hN]
  have n9 : (n : Int) ≤ 100000 := by omega
  clear hr hn hN h2 hn2
  have t0 : (0 : Nat) = 0 := rfl
  go_enter Try.func50, Try.ntmps50
  go_wp2_with (first
    | (have qq := t2; refine nil_lawP _ rfl rfl ?_; intro w3 O9 B9 l3; have O3 : Hid (Ow w2.heap.size w3 (.slice (some ⟨w2.heap.size, 0, none⟩) 0 0) []) := O9; have B3 : Hid (Below w2.heap.size w2 w3) := B9; clear O9 B9 l3 t2)
    | (have qq := t1; refine box_lawC _ (rmc s2 v2) rfl ?_; intro w2 X9 B9 l9; have VB : Hid (Vr w2 w1.heap.size (rmc s2 v2)) := X9; have VA : Hid (Vr w2 w.heap.size (rmc s1 (.slice ao n cap))) := VA.out.below B9 (range_lt VA.out.1 (Nat.succ_pos _)); have HB : Hid (Below w.heap.size w w2) := HB.out.trans (B9.mono HB.out.size); clear X9 B9 l9 t1; have t2 : (0 : Nat) = 0 := rfl)
    | (have qq := t0; refine box_lawC _ (rmc s1 (.slice ao n cap)) rfl ?_; intro w1 X9 B9 l9; have VA : Hid (Vr w1 w.heap.size (rmc s1 (.slice ao n cap))) := X9; have HB : Hid (Below w.heap.size w w1) := B9; clear X9 B9 l9 t0; have t1 : (0 : Nat) = 0 := rfl))
  have HG : Hid (Gs w w3 w.heap.size w1.heap.size (rmc s1 (.slice ao n cap)) (rmc s2 v2) (.slice (some ⟨w2.heap.size, 0, none⟩) 0 0) (gn L2 (L1.take 0))) := ⟨VA.out.below B3.out (range_lt VA.out.1 (Nat.succ_pos _)), VB.out.below B3.out (range_lt VB.out.1 (Nat.succ_pos _)), (Os.nil O3.out).up HB.out.size, HB.out.trans (B3.out.mono HB.out.size), (fun k hk => by have := blk_mk hk; have := range_lt VA.out.1 (Nat.succ_pos _); have := range_lt VB.out.1 (Nat.succ_pos _); omega), Nat.succ_pos _, Nat.succ_pos _⟩
  clear VA VB HB O3 B3
  go_loopw [5, 6, 7, 8, 9, 10, 11] (fun vv iv _ _ _ _ _ wr => ∃ (k : Nat) (v : Value), k ≤ n ∧ iv = .int .i64 k ∧ vv = v ∧ Hid (Gs w wr w.heap.size w1.heap.size (rmc s1 (.slice ao n cap)) (rmc s2 v2) v (gn L2 (L1.take k)))) (fun _ iv _ _ _ _ _ _ => n - (intOf iv).toNat)
  case atStart => exact ⟨0, _, Nat.zero_le _, rfl, rfl, HG⟩
  case round =>
    clear HG
    obtain ⟨k, v, hk, rfl, hv9, HG⟩ := hrel
    obtain rfl := hv9.symm
    have k0 : (0 : Int) ≤ (k : Int) := by omega
    have kw : IntKind.i64.wrap ((k : Int) + 1) = ((k + 1 : Nat) : Int) := by rw [IntKind.wrap_i64]; omega
    have nv : wr.cell? ⟨w.heap.size, 4, none⟩ = some (.slice ao n cap) := HG.out.a.cell 4 _ rfl
    by_cases hlt : k < n
    · have k1 : (k : Int) < (n : Int) := by omega
      obtain ⟨x, hx⟩ : ∃ x, L1[k]? = some x := ⟨_, List.getElem?_eq_getElem (by have := NN.out; omega)⟩
      obtain ⟨g, rfl, hr⟩ := HR.out (by omega)
      have AX : Hid (wr.rangeAt g (k * 16) x.cs) := ((hr.below HG.out.h) k x hx).1
      have nx := cells16 AX.out
      have HX : Hid (L1[k]? = some x) := hx
      obtain ⟨p, hp⟩ : ∃ p, p = x.s.p := ⟨_, rfl⟩
      have LL : Hid (gn L2 (L1.take (k + 1)) = gst L2 (gn L2 (L1.take k)) p) := by rw [hp]; exact gn_more hx
      have GG : Hid ((gn L2 (L1.take k)).length ≤ 100000) := by have := gn_len L2 L1 k; show _ ≤ _; omega
      generalize gn L2 (L1.take k) = l at HG LL GG
      have R2 : Hid (∀ W, Below w.heap.size w W → Calls Try.prog 12 #[.agg (rmc s2 v2).toArray, .agg (pc p).toArray] W fun e w' => e = .returned (.int .i64 ((L2.countP (atp p) : Nat) : Int)) ∧ Below W.heap.size W w') := fun W hW => RF.out W p hW
      have CC : Hid (∀ c, c = L2.countP (atp p) → gst L2 l p = if 0 < c ∨ p ∈ l then l else ins p l) := fun c e => by rw [e]; rfl
      generalize L2.countP (atp p) = c at R2 CC
      have PP : Hid (wr.rangeAt g (k * 16 + 2) (pc p)) := by rw [hp]; exact place_at (spot_in AX.out)
      have CD : Hid (gst L2 l p = if 0 < c ∨ p ∈ l then l else ins p l) := CC.out c rfl
      have np0 : wr.cell? ⟨g, k * 16 + 2, none⟩ = some (.int .i64 p.1) := PP.out 0 _ rfl
      have np1 : wr.cell? ⟨g, k * 16 + 3, none⟩ = some (.int .i64 p.2) := PP.out 1 _ rfl
      clear hr hx AX HX hp CC nx
      have t0 : (0 : Nat) = 0 := rfl
      by_cases hc : 0 < c
      · have c1 : decide ((c : Int) > 0) = true := decide_eq_true (by omega)
        have c2 : (0 : Int) < (c : Int) := by omega
        have c3 : decide (0 < c) = true := decide_eq_true hc
        have CE : Hid (gst L2 l p = l) := by show _ = _; rw [CD.out, if_pos (.inl hc)]
        clear CD hc
        go_wp2_with (first
          | (have qq := t5; go_at_call 12; refine (R2.out _ HG.out.h).mono ?_; rintro e w6 ⟨rfl, B9⟩; have HG : Hid (Gs w w6 w.heap.size w1.heap.size (rmc s1 (.slice (some ⟨g, 0, none⟩) n cap)) (rmc s2 v2) v (l)) := HG.out.below B9; have VP : Hid (Vr w6 wr.heap.size (pc p)) := VP.out.below B9 (range_lt VP.out.1 (Nat.succ_pos _)); clear B9 t5)
          | (have qq := t4; refine load_law _ (by rfl) 31 (.tmp 7) rfl wr.heap.size 0 (pc p) rfl rowy_place VP.out.1 ?_; clear t4; have t5 : (0 : Nat) = 0 := rfl)
          | (have qq := t3; refine load_law _ (by rfl) 28 (.tmp 3) rfl w1.heap.size 0 (rmc s2 v2) rfl rowy_rmap HG.out.b.1 ?_; clear t3; have t4 : (0 : Nat) = 0 := rfl)
          | (have qq := t2; (with_reducible refine at_store ?_); refine store_lawC _ (pc p) wr.heap.size 0 rfl rfl VZ.out.2 size_place (pc_one p) ?_; intro w5 _ r9 h9 B9; have VP : Hid (Vr w5 wr.heap.size (pc p)) := ⟨r9, h9⟩; have HG : Hid (Gs w w5 w.heap.size w1.heap.size (rmc s1 (.slice (some ⟨g, 0, none⟩) n cap)) (rmc s2 v2) v (l)) := HG.out.below (BZ.out.trans B9); clear r9 h9 B9 VZ BZ t2; have t3 : (0 : Nat) = 0 := rfl)
          | (have qq := t0; (with_reducible refine at_alloc ?_); refine new_lawC _ (pc (0, 0)) zero_place ?_; intro w4 X9 B9 l9; have VZ : Hid (Vr w4 wr.heap.size (pc (0, 0))) := X9; have BZ : Hid (Below wr.heap.size wr w4) := B9; clear X9 B9 l9 t0; have t2 : (0 : Nat) = 0 := rfl))
        clear nv PP R2 np0 np1
        obtain ⟨G, cG, rfl, ho9⟩ := HG.out.o
        obtain ⟨P, hP⟩ : ∃ P, P = wr.heap.size := ⟨_, rfl⟩
        rw [← hP] at VP ⊢
        clear hP
        obtain ⟨ll, hll⟩ : ∃ z, z = l.length := ⟨_, rfl⟩
        have HCG : Hid (l.length ≤ cG) := (ow_row ho9).2.2.2.2.1
        have L9 : Hid (ll = l.length) := hll
        rw [← hll] at HG HCG ⊢
        have l9 : (ll : Int) ≤ 100000 := by have := GG.out; omega
        clear hll ho9
        go_loopw [8, 9] (fun tv jv wq => ∃ (j : Nat) (b : Bool), j ≤ ll ∧ jv = .int .i64 j ∧ tv = .bool b ∧ Hid (b = true) ∧ Hid (Gs w wq w.heap.size w1.heap.size (rmc s1 (.slice (some ⟨g, 0, none⟩) n cap)) (rmc s2 v2) (.slice (some ⟨G, 0, none⟩) ll cG) (l)) ∧ Hid (Vr wq P (pc p))) (fun _ jv _ => ll - (intOf jv).toNat)
        case atStart => exact ⟨0, true, Nat.zero_le _, rfl, rfl, rfl, HG, VP⟩
        case round =>
          clear HG VP
          obtain ⟨j, b, hj, rfl, rfl, HV, HG, VP⟩ := hrel
          have j0 : (0 : Int) ≤ (j : Int) := by omega
          have jw : IntKind.i64.wrap ((j : Int) + 1) = ((j + 1 : Nat) : Int) := by rw [IntKind.wrap_i64]; omega
          by_cases hl2 : j < ll
          · have j1 : (j : Int) < (ll : Int) := by omega
            obtain rfl : b = true := HV.out
            go_wp2
            go_quiet (fail)
            go_wp2
            go_roundw
            case rel => exact ⟨j + 1, true, by omega, by go_num, rfl, rfl, HG.out.below (below_dr (Below.refl _ _) _), VP.out.drewN _⟩
            case measure => simp [intOf]; omega
          · have j1 : ¬ (j : Int) < (ll : Int) := by omega
            obtain rfl : b = true := HV.out
            go_wp2
            go_roundw
            case rel => exact ⟨k + 1, _, by omega, by go_num, rfl, by rw [LL.out, CE.out]; exact HG⟩
            case measure => simp [intOf]; omega

      · have c1 : decide ((c : Int) > 0) = false := decide_eq_false (by omega)
        have c2 : ¬ (0 : Int) < (c : Int) := by omega
        have c3 : decide (0 < c) = false := decide_eq_false hc
        have CE : Hid (gst L2 l p = if p ∈ l then l else ins p l) := by show _ = _; rw [CD.out]; simp only [hc, false_or]
        clear CD hc
        go_wp2_with (first
          | (have qq := t5; go_at_call 12; refine (R2.out _ HG.out.h).mono ?_; rintro e w6 ⟨rfl, B9⟩; have HG : Hid (Gs w w6 w.heap.size w1.heap.size (rmc s1 (.slice (some ⟨g, 0, none⟩) n cap)) (rmc s2 v2) v (l)) := HG.out.below B9; have VP : Hid (Vr w6 wr.heap.size (pc p)) := VP.out.below B9 (range_lt VP.out.1 (Nat.succ_pos _)); clear B9 t5)
          | (have qq := t4; refine load_law _ (by rfl) 31 (.tmp 7) rfl wr.heap.size 0 (pc p) rfl rowy_place VP.out.1 ?_; clear t4; have t5 : (0 : Nat) = 0 := rfl)
          | (have qq := t3; refine load_law _ (by rfl) 28 (.tmp 3) rfl w1.heap.size 0 (rmc s2 v2) rfl rowy_rmap HG.out.b.1 ?_; clear t3; have t4 : (0 : Nat) = 0 := rfl)
          | (have qq := t2; (with_reducible refine at_store ?_); refine store_lawC _ (pc p) wr.heap.size 0 rfl rfl VZ.out.2 size_place (pc_one p) ?_; intro w5 _ r9 h9 B9; have VP : Hid (Vr w5 wr.heap.size (pc p)) := ⟨r9, h9⟩; have HG : Hid (Gs w w5 w.heap.size w1.heap.size (rmc s1 (.slice (some ⟨g, 0, none⟩) n cap)) (rmc s2 v2) v (l)) := HG.out.below (BZ.out.trans B9); clear r9 h9 B9 VZ BZ t2; have t3 : (0 : Nat) = 0 := rfl)
          | (have qq := t0; (with_reducible refine at_alloc ?_); refine new_lawC _ (pc (0, 0)) zero_place ?_; intro w4 X9 B9 l9; have VZ : Hid (Vr w4 wr.heap.size (pc (0, 0))) := X9; have BZ : Hid (Below wr.heap.size wr w4) := B9; clear X9 B9 l9 t0; have t2 : (0 : Nat) = 0 := rfl))
        clear nv PP R2 np0 np1
        obtain ⟨G, cG, rfl, ho9⟩ := HG.out.o
        obtain ⟨P, hP⟩ : ∃ P, P = wr.heap.size := ⟨_, rfl⟩
        rw [← hP] at VP ⊢
        clear hP
        obtain ⟨ll, hll⟩ : ∃ z, z = l.length := ⟨_, rfl⟩
        have HCG : Hid (l.length ≤ cG) := (ow_row ho9).2.2.2.2.1
        have L9 : Hid (ll = l.length) := hll
        rw [← hll] at HG HCG ⊢
        have l9 : (ll : Int) ≤ 100000 := by have := GG.out; omega
        clear hll ho9
        go_loopw [8, 9] (fun tv jv wq => ∃ (j : Nat) (b : Bool), j ≤ ll ∧ jv = .int .i64 j ∧ tv = .bool b ∧ Hid (b = decide (p ∈ l.take j)) ∧ Hid (Gs w wq w.heap.size w1.heap.size (rmc s1 (.slice (some ⟨g, 0, none⟩) n cap)) (rmc s2 v2) (.slice (some ⟨G, 0, none⟩) ll cG) (l)) ∧ Hid (Vr wq P (pc p))) (fun _ jv _ => ll - (intOf jv).toNat)
        case atStart => exact ⟨0, false, Nat.zero_le _, rfl, rfl, by show false = decide (p ∈ l.take 0); simp, HG, VP⟩
        case round =>
          clear HG VP
          obtain ⟨j, b, hj, rfl, rfl, HV, HG, VP⟩ := hrel
          have j0 : (0 : Int) ≤ (j : Int) := by omega
          have jw : IntKind.i64.wrap ((j : Int) + 1) = ((j + 1 : Nat) : Int) := by rw [IntKind.wrap_i64]; omega
          by_cases hl2 : j < ll
          · have j1 : (j : Int) < (ll : Int) := by omega
            obtain ⟨y, hy⟩ : ∃ y, l[j]? = some y := ⟨_, List.getElem?_eq_getElem (by have := L9.out; omega)⟩
            have HY : Hid (l[j]? = some y) := hy
            cases b with
            | true =>
              have T1 : Hid (true = decide (p ∈ l.take (j + 1))) := by
                show _ = _
                have z := HV.out
                rw [take_more hy]
                simp at z ⊢
                exact .inl z
              clear hy HY
              go_wp2
              go_quiet (fail)
              go_wp2
              go_roundw
              case rel => exact ⟨j + 1, true, by omega, by go_num, rfl, T1, HG.out.below (below_dr (Below.refl _ _) _), VP.out.drewN _⟩
              case measure => simp [intOf]; omega
            | false =>
              have ny := two (HG.out.rl L9.out j y hy)
              have nz := two0 VP.out.1
              have gd : Try.prog.eqGuardType Try.prog.depth 31 = false := by kernel_rfl
              by_cases hyp : y = p
              · have eq : ∀ W : World, (Op.equalIn 10000 31 (.agg #[.int .i64 y.1, .int .i64 y.2]) (.agg #[.int .i64 p.1, .int .i64 p.2])).run Try.prog W = .ok true W := fun W => (run_equal y p W).trans (by rw [decide_eq_true hyp])
                have T1 : Hid (true = decide (p ∈ l.take (j + 1))) := by
                  show _ = _
                  rw [take_more hy]
                  simp [hyp]
                clear hy HY hyp
                go_wp2
                go_quiet (fail)
                clear eq ny nz
                go_wp2
                go_roundw
                case rel => exact ⟨j + 1, true, by omega, by go_num, rfl, T1, HG.out.below (below_dr (Below.refl _ _) _), VP.out.drewN _⟩
                case measure => simp [intOf]; omega
              · have eq : ∀ W : World, (Op.equalIn 10000 31 (.agg #[.int .i64 y.1, .int .i64 y.2]) (.agg #[.int .i64 p.1, .int .i64 p.2])).run Try.prog W = .ok false W := fun W => (run_equal y p W).trans (by rw [decide_eq_false hyp])
                have T1 : Hid (false = decide (p ∈ l.take (j + 1))) := by
                  show _ = _
                  have z := HV.out
                  rw [take_more hy]
                  simp at z ⊢
                  exact ⟨z, fun h => hyp h.symm⟩
                clear hy HY hyp
                go_wp2
                go_quiet (fail)
                clear eq ny nz
                go_wp2
                go_roundw
                case rel => exact ⟨j + 1, false, by omega, by go_num, rfl, T1, HG.out.below (below_dr (Below.refl _ _) _), VP.out.drewN _⟩
                case measure => simp [intOf]; omega
          · have j1 : ¬ (j : Int) < (ll : Int) := by omega
            cases b with
            | true =>
              have CE : Hid (gst L2 l p = l) := by
                have z := HV.out
                rw [List.take_of_length_le (by have := L9.out; omega)] at z
                show _ = _
                rw [CE.out, if_pos (by simpa using z.symm)]
              go_wp2
              go_roundw
              case rel => exact ⟨k + 1, _, by omega, by go_num, rfl, by rw [LL.out, CE.out]; exact HG⟩
              case measure => simp [intOf]; omega
            | false =>
              have CE : Hid (gst L2 l p = ins p l) := by
                have z := HV.out
                rw [List.take_of_length_le (by have := L9.out; omega)] at z
                show _ = _
                rw [CE.out, if_neg (by simpa using z.symm)]
              clear HV
              go_wp2
              go_loopw [10] (fun av wq => ∃ a : Nat, a ≤ ll ∧ av = .int .i64 a ∧ Hid (∀ j q, j < a → l[j]? = some q → ltp q p = true) ∧ Hid (Gs w wq w.heap.size w1.heap.size (rmc s1 (.slice (some ⟨g, 0, none⟩) n cap)) (rmc s2 v2) (.slice (some ⟨G, 0, none⟩) ll cG) (l)) ∧ Hid (Vr wq P (pc p))) (fun av _ => ll - (intOf av).toNat)
              case atStart => exact ⟨0, Nat.zero_le _, rfl, fun j q hj _ => absurd hj (Nat.not_lt_zero _), HG, VP⟩
              case round =>
                clear HG VP
                obtain ⟨a, ha, rfl, HV, HG, VP⟩ := hrel
                have a0 : (0 : Int) ≤ (a : Int) := by omega
                have aw : IntKind.i64.wrap ((a : Int) + 1) = ((a + 1 : Nat) : Int) := by rw [IntKind.wrap_i64]; omega
                have HA2 : Hid (a ≤ ll) := ha
                by_cases hl3 : a < ll
                · have a1 : (a : Int) < (ll : Int) := by omega
                  have HA : Hid (a < ll) := hl3
                  obtain ⟨y, hy⟩ : ∃ y, l[a]? = some y := ⟨_, List.getElem?_eq_getElem (by have := L9.out; omega)⟩
                  have HY : Hid (l[a]? = some y) := hy
                  clear hy
                  cases hyp : ltp y p with
                  | true =>
                    have SA : Hid (∀ W, Calls Try.prog 59 #[.agg (pc y).toArray, .agg (pc p).toArray] W fun e w' => e = .returned (.bool true) ∧ Below W.heap.size W w') := fun W => by rw [← hyp]; exact rahead_any y p W
                    have HV2 : Hid (∀ j q, j < a + 1 → l[j]? = some q → ltp q p = true) := fun j q hj hq => by
                      rcases Nat.lt_succ_iff_lt_or_eq.1 hj with h | h
                      · exact HV.out j q h hq
                      · subst h; have := HY.out; rw [hq] at this; cases this; exact hyp
                    clear hyp HV
                    go_wp2
                    have HG : Hid (Gs w wr.drew w.heap.size w1.heap.size (rmc s1 (.slice (some ⟨g, 0, none⟩) n cap)) (rmc s2 v2) (.slice (some ⟨G, 0, none⟩) ll cG) (l)) := HG.out.below (below_dr (Below.refl _ _) 1)
                    have VP : Hid (Vr wr.drew P (pc p)) := VP.out.drewN 1
                    refine wp_region_held_drew (S := fun w' => w'.rangeAt G (a * 2) (pc y) ∧ w'.rangeAt P 0 (pc p)) (by kernel_rfl) ⟨(HG.out.rl L9.out a y HY.out).1, VP.out.1⟩ (fun hS => ?_)
                    obtain ⟨z1, hx0⟩ : ∃ x, x = wr.drew := ⟨_, rfl⟩
                    rw [← hx0] at hS HG VP ⊢
                    clear hx0
                    refine take_lawH 0 (some 47) (.int .i64 (a : Int)) rfl rfl (by kernel_rfl) (by kernel_rfl) (by kernel_rfl) (fun _ _ _ h => h) (Or.inl ⟨by rfl, fun w' hw' => by rfl⟩) hS ?_
                    simp only [Act.put, List.setIfInBounds_toArray, List.set_cons_zero, List.set_cons_succ]
                    refine take_lawH 1 (some 48) ((.slice (some ⟨G, 0, none⟩) ll cG)) rfl rfl (by kernel_rfl) (by kernel_rfl) (by kernel_rfl) (fun _ _ _ h => h) (Or.inl ⟨by rfl, fun w' hw' => by rfl⟩) hS ?_
                    simp only [Act.put, List.setIfInBounds_toArray, List.set_cons_zero, List.set_cons_succ]
                    refine take_lawH 2 (some 49) (.int .i64 (ll : Int)) rfl rfl (by kernel_rfl) (by kernel_rfl) (by kernel_rfl) (fun _ _ _ h => h) (Or.inl ⟨by rfl, fun w' hw' => by go_simp⟩) hS ?_
                    simp only [Act.put, List.setIfInBounds_toArray, List.set_cons_zero, List.set_cons_succ]
                    refine take_lawH 3 (some 50) (.bool true) rfl rfl (by kernel_rfl) (by kernel_rfl) (by kernel_rfl) (fun _ _ _ h => h) (Or.inl ⟨by rfl, fun w' hw' => by go_simp⟩) hS ?_
                    simp only [Act.put, List.setIfInBounds_toArray, List.set_cons_zero, List.set_cons_succ]
                    refine take_lawH 4 (some 51) (.bool true) rfl rfl (by kernel_rfl) (by kernel_rfl) (by kernel_rfl) (fun _ _ _ h => h) (Or.inl ⟨by rfl, fun w' hw' => by rfl⟩) hS ?_
                    simp only [Act.put, List.setIfInBounds_toArray, List.set_cons_zero, List.set_cons_succ]
                    refine take_lawH 5 (some 52) ((.slice (some ⟨G, 0, none⟩) ll cG)) rfl rfl (by kernel_rfl) (by kernel_rfl) (by kernel_rfl) (fun _ _ _ h => h) (Or.inl ⟨by rfl, fun w' hw' => by rfl⟩) hS ?_
                    simp only [Act.put, List.setIfInBounds_toArray, List.set_cons_zero, List.set_cons_succ]
                    refine take_lawH 6 (some 53) (.int .i64 (a : Int)) rfl rfl (by kernel_rfl) (by kernel_rfl) (by kernel_rfl) (fun _ _ _ h => h) (Or.inl ⟨by rfl, fun w' hw' => by rfl⟩) hS ?_
                    simp only [Act.put, List.setIfInBounds_toArray, List.set_cons_zero, List.set_cons_succ]
                    refine take_lawH 7 (some 54) (.pointer (some ⟨G, a * 2, none⟩)) rfl rfl (by kernel_rfl) (by kernel_rfl) (by kernel_rfl) (fun _ _ _ h => h) (Or.inl ⟨by rfl, fun w' hw' => by exact exec_idxP (.tmp 52) (.tmp 53) rfl G ll cG a rfl rfl HA.out _⟩) hS ?_
                    simp only [Act.put, List.setIfInBounds_toArray, List.set_cons_zero, List.set_cons_succ]
                    refine take_lawH 8 (some 55) (.agg (pc y).toArray) rfl rfl (by kernel_rfl) (by kernel_rfl) (by kernel_rfl) (fun _ _ _ h => h) (Or.inl ⟨by rfl, fun w' hw' => by exact exec_loadN 31 (.tmp 54) rfl _ rfl _ _ (load_cells rowy_place hw'.1)⟩) hS ?_
                    simp only [Act.put, List.setIfInBounds_toArray, List.set_cons_zero, List.set_cons_succ]
                    refine take_lawH 9 (some 56) (.agg (pc p).toArray) rfl rfl (by kernel_rfl) (by kernel_rfl) (by kernel_rfl) (fun _ _ _ h => h) (Or.inl ⟨by rfl, fun w' hw' => by exact exec_loadN 31 (.tmp 7) rfl _ rfl _ _ (load_cells rowy_place hw'.2)⟩) hS ?_
                    simp only [Act.put, List.setIfInBounds_toArray, List.set_cons_zero, List.set_cons_succ]
                    refine wpAnyH_ready (rs := [10]) (by kernel_rfl) (by simp) ?_
                    refine AllReadyH.cons rfl (fun K hK => ?_) AllReadyH.nil
                    refine step_callW z1 (by rfl) (some 57) rfl 59 #[.tmp 55, .tmp 56] _ rfl (fun _ _ => rfl) #[.agg (pc y).toArray, .agg (pc p).toArray] (by simp only [List.map_toArray, List.map_cons, List.map_nil]; rfl) (fun v w' => v = .bool true ∧ Below z1.heap.size z1 w') ((SA.out z1).mono fun e w' ⟨h1, h2⟩ => ⟨_, h1, rfl, h2⟩) ?_
                    rintro v9 z2 ⟨rfl, B9⟩
                    have HG : Hid (Gs w z2 w.heap.size w1.heap.size (rmc s1 (.slice (some ⟨g, 0, none⟩) n cap)) (rmc s2 v2) (.slice (some ⟨G, 0, none⟩) ll cG) (l)) := HG.out.below B9
                    have VP : Hid (Vr z2 P (pc p)) := VP.out.below B9 (range_lt VP.out.1 (Nat.succ_pos _))
                    have hS : z2.rangeAt G (a * 2) (pc y) ∧ z2.rangeAt P 0 (pc p) := ⟨(HG.out.rl L9.out a y HY.out).1, VP.out.1⟩
                    clear B9
                    refine hK.out _ _ hS (fun _ => ?_)
                    simp only [Act.put, List.setIfInBounds_toArray, List.set_cons_zero, List.set_cons_succ]
                    clear hK K
                    refine take_lawH 11 (some 58) (.bool true) rfl rfl (by kernel_rfl) (by kernel_rfl) (by kernel_rfl) (fun _ _ _ h => h) (Or.inl ⟨by rfl, fun w' hw' => by rfl⟩) hS ?_
                    simp only [Act.put, List.setIfInBounds_toArray, List.set_cons_zero, List.set_cons_succ]
                    refine wpAnyH_done (by kernel_rfl) ?_ _
                    go_wp2
                    go_roundw
                    case rel => exact ⟨a + 1, by have := HA.out; omega, by go_num, HV2, HG, VP⟩
                    case measure => simp [intOf]; have := HA.out; omega
                  | false =>
                    have SA : Hid (∀ W, Calls Try.prog 59 #[.agg (pc y).toArray, .agg (pc p).toArray] W fun e w' => e = .returned (.bool false) ∧ Below W.heap.size W w') := fun W => by rw [← hyp]; exact rahead_any y p W
                    have IA : Hid (l.take a ++ (p :: l.drop a) = ins p l) := (ins_at p l a (by have := L9.out; have := HA.out; omega) HV.out (fun q hq => by have := HY.out; rw [hq] at this; cases this; exact hyp)).symm
                    clear hyp HV
                    go_wp2
                    have HG : Hid (Gs w wr.drew w.heap.size w1.heap.size (rmc s1 (.slice (some ⟨g, 0, none⟩) n cap)) (rmc s2 v2) (.slice (some ⟨G, 0, none⟩) ll cG) (l)) := HG.out.below (below_dr (Below.refl _ _) 1)
                    have VP : Hid (Vr wr.drew P (pc p)) := VP.out.drewN 1
                    refine wp_region_held_drew (S := fun w' => w'.rangeAt G (a * 2) (pc y) ∧ w'.rangeAt P 0 (pc p)) (by kernel_rfl) ⟨(HG.out.rl L9.out a y HY.out).1, VP.out.1⟩ (fun hS => ?_)
                    obtain ⟨z1, hx0⟩ : ∃ x, x = wr.drew := ⟨_, rfl⟩
                    rw [← hx0] at hS HG VP ⊢
                    clear hx0
                    refine take_lawH 0 (some 47) (.int .i64 (a : Int)) rfl rfl (by kernel_rfl) (by kernel_rfl) (by kernel_rfl) (fun _ _ _ h => h) (Or.inl ⟨by rfl, fun w' hw' => by rfl⟩) hS ?_
                    simp only [Act.put, List.setIfInBounds_toArray, List.set_cons_zero, List.set_cons_succ]
                    refine take_lawH 1 (some 48) ((.slice (some ⟨G, 0, none⟩) ll cG)) rfl rfl (by kernel_rfl) (by kernel_rfl) (by kernel_rfl) (fun _ _ _ h => h) (Or.inl ⟨by rfl, fun w' hw' => by rfl⟩) hS ?_
                    simp only [Act.put, List.setIfInBounds_toArray, List.set_cons_zero, List.set_cons_succ]
                    refine take_lawH 2 (some 49) (.int .i64 (ll : Int)) rfl rfl (by kernel_rfl) (by kernel_rfl) (by kernel_rfl) (fun _ _ _ h => h) (Or.inl ⟨by rfl, fun w' hw' => by go_simp⟩) hS ?_
                    simp only [Act.put, List.setIfInBounds_toArray, List.set_cons_zero, List.set_cons_succ]
                    refine take_lawH 3 (some 50) (.bool true) rfl rfl (by kernel_rfl) (by kernel_rfl) (by kernel_rfl) (fun _ _ _ h => h) (Or.inl ⟨by rfl, fun w' hw' => by go_simp⟩) hS ?_
                    simp only [Act.put, List.setIfInBounds_toArray, List.set_cons_zero, List.set_cons_succ]
                    refine take_lawH 4 (some 51) (.bool true) rfl rfl (by kernel_rfl) (by kernel_rfl) (by kernel_rfl) (fun _ _ _ h => h) (Or.inl ⟨by rfl, fun w' hw' => by rfl⟩) hS ?_
                    simp only [Act.put, List.setIfInBounds_toArray, List.set_cons_zero, List.set_cons_succ]
                    refine take_lawH 5 (some 52) ((.slice (some ⟨G, 0, none⟩) ll cG)) rfl rfl (by kernel_rfl) (by kernel_rfl) (by kernel_rfl) (fun _ _ _ h => h) (Or.inl ⟨by rfl, fun w' hw' => by rfl⟩) hS ?_
                    simp only [Act.put, List.setIfInBounds_toArray, List.set_cons_zero, List.set_cons_succ]
                    refine take_lawH 6 (some 53) (.int .i64 (a : Int)) rfl rfl (by kernel_rfl) (by kernel_rfl) (by kernel_rfl) (fun _ _ _ h => h) (Or.inl ⟨by rfl, fun w' hw' => by rfl⟩) hS ?_
                    simp only [Act.put, List.setIfInBounds_toArray, List.set_cons_zero, List.set_cons_succ]
                    refine take_lawH 7 (some 54) (.pointer (some ⟨G, a * 2, none⟩)) rfl rfl (by kernel_rfl) (by kernel_rfl) (by kernel_rfl) (fun _ _ _ h => h) (Or.inl ⟨by rfl, fun w' hw' => by exact exec_idxP (.tmp 52) (.tmp 53) rfl G ll cG a rfl rfl HA.out _⟩) hS ?_
                    simp only [Act.put, List.setIfInBounds_toArray, List.set_cons_zero, List.set_cons_succ]
                    refine take_lawH 8 (some 55) (.agg (pc y).toArray) rfl rfl (by kernel_rfl) (by kernel_rfl) (by kernel_rfl) (fun _ _ _ h => h) (Or.inl ⟨by rfl, fun w' hw' => by exact exec_loadN 31 (.tmp 54) rfl _ rfl _ _ (load_cells rowy_place hw'.1)⟩) hS ?_
                    simp only [Act.put, List.setIfInBounds_toArray, List.set_cons_zero, List.set_cons_succ]
                    refine take_lawH 9 (some 56) (.agg (pc p).toArray) rfl rfl (by kernel_rfl) (by kernel_rfl) (by kernel_rfl) (fun _ _ _ h => h) (Or.inl ⟨by rfl, fun w' hw' => by exact exec_loadN 31 (.tmp 7) rfl _ rfl _ _ (load_cells rowy_place hw'.2)⟩) hS ?_
                    simp only [Act.put, List.setIfInBounds_toArray, List.set_cons_zero, List.set_cons_succ]
                    refine wpAnyH_ready (rs := [10]) (by kernel_rfl) (by simp) ?_
                    refine AllReadyH.cons rfl (fun K hK => ?_) AllReadyH.nil
                    refine step_callW z1 (by rfl) (some 57) rfl 59 #[.tmp 55, .tmp 56] _ rfl (fun _ _ => rfl) #[.agg (pc y).toArray, .agg (pc p).toArray] (by simp only [List.map_toArray, List.map_cons, List.map_nil]; rfl) (fun v w' => v = .bool false ∧ Below z1.heap.size z1 w') ((SA.out z1).mono fun e w' ⟨h1, h2⟩ => ⟨_, h1, rfl, h2⟩) ?_
                    rintro v9 z2 ⟨rfl, B9⟩
                    have HG : Hid (Gs w z2 w.heap.size w1.heap.size (rmc s1 (.slice (some ⟨g, 0, none⟩) n cap)) (rmc s2 v2) (.slice (some ⟨G, 0, none⟩) ll cG) (l)) := HG.out.below B9
                    have VP : Hid (Vr z2 P (pc p)) := VP.out.below B9 (range_lt VP.out.1 (Nat.succ_pos _))
                    have hS : z2.rangeAt G (a * 2) (pc y) ∧ z2.rangeAt P 0 (pc p) := ⟨(HG.out.rl L9.out a y HY.out).1, VP.out.1⟩
                    clear B9
                    refine hK.out _ _ hS (fun _ => ?_)
                    simp only [Act.put, List.setIfInBounds_toArray, List.set_cons_zero, List.set_cons_succ]
                    clear hK K
                    refine take_lawH 11 (some 58) (.bool false) rfl rfl (by kernel_rfl) (by kernel_rfl) (by kernel_rfl) (fun _ _ _ h => h) (Or.inl ⟨by rfl, fun w' hw' => by rfl⟩) hS ?_
                    simp only [Act.put, List.setIfInBounds_toArray, List.set_cons_zero, List.set_cons_succ]
                    refine wpAnyH_done (by kernel_rfl) ?_ _
                    go_wp2
                    obtain ⟨vx, hvx⟩ : ∃ z, z = sliced (some ⟨G, 0, none⟩) a ll cG 2 := ⟨_, rfl⟩
                    have VX : Hid (vx = sliced (some ⟨G, 0, none⟩) a ll cG 2) := hvx
                    clear hvx
                    have HG : Hid (Gs w z2.drew w.heap.size w1.heap.size (rmc s1 (.slice (some ⟨g, 0, none⟩) n cap)) (rmc s2 v2) (.slice (some ⟨G, 0, none⟩) ll cG) (l)) := HG.out.below (below_dr (Below.refl _ _) 1)
                    have VP : Hid (Vr z2.drew P (pc p)) := VP.out.drewN 1
                    refine wp_region_held_drew (S := fun w' => w'.rangeAt P 0 (pc p)) (by kernel_rfl) VP.out.1 (fun hS => ?_)
                    obtain ⟨y1, hx0⟩ : ∃ x, x = z2.drew := ⟨_, rfl⟩
                    rw [← hx0] at hS HG VP ⊢
                    clear hx0
                    refine take_lawH 0 (some 61) (.agg (pc p).toArray) rfl rfl (by kernel_rfl) (by kernel_rfl) (by kernel_rfl) (fun _ _ _ h => h) (Or.inl ⟨by rfl, fun w' hw' => by exact exec_loadN 31 (.tmp 7) rfl _ rfl _ _ (load_cells rowy_place hw')⟩) hS ?_
                    simp only [Act.put, List.setIfInBounds_toArray, List.set_cons_zero, List.set_cons_succ]
                    refine take_lawH 2 (some 63) ((.slice (some ⟨G, 0, none⟩) ll cG)) rfl rfl (by kernel_rfl) (by kernel_rfl) (by kernel_rfl) (fun _ _ _ h => h) (Or.inl ⟨by rfl, fun w' hw' => by rfl⟩) hS ?_
                    simp only [Act.put, List.setIfInBounds_toArray, List.set_cons_zero, List.set_cons_succ]
                    refine take_lawH 3 (some 64) (.int .i64 (a : Int)) rfl rfl (by kernel_rfl) (by kernel_rfl) (by kernel_rfl) (fun _ _ _ h => h) (Or.inl ⟨by rfl, fun w' hw' => by rfl⟩) hS ?_
                    simp only [Act.put, List.setIfInBounds_toArray, List.set_cons_zero, List.set_cons_succ]
                    refine take_lawH 4 (some 65) (vx) rfl rfl (by kernel_rfl) (by kernel_rfl) (by kernel_rfl) (fun _ _ _ h => h) (Or.inl ⟨by rfl, fun w' hw' => by exact exec_fromP (.tmp 63) (.tmp 64) rfl (some ⟨G, 0, none⟩) ll cG a rfl rfl HA2.out vx VX.out _⟩) hS ?_
                    simp only [Act.put, List.setIfInBounds_toArray, List.set_cons_zero, List.set_cons_succ]
                    refine wpAnyH_ready (rs := [1]) (by kernel_rfl) (by simp) ?_
                    refine AllReadyH.cons rfl (fun K hK => ?_) AllReadyH.nil
                    refine step_oneP y1 rfl (some 62) rfl (.tmp 61) p rfl rfl ?_
                    intro y2 O9 B9
                    have RO : Hid (Os y1.heap.size y2 (.slice (some ⟨y1.heap.size, 0, none⟩) 1 1) [p]) := O9
                    have NB : Hid (∀ k, k < y1.heap.size → ¬ Blk (.slice (some ⟨y1.heap.size, 0, none⟩) 1 1) k) := fun k hk e => by have := blk_mk e; omega
                    have W0 : Hid (y1.heap.size ≤ y2.heap.size ∧ w.heap.size ≤ y1.heap.size ∧ w1.heap.size < y1.heap.size ∧ w.heap.size < y1.heap.size ∧ G < y1.heap.size ∧ P < y1.heap.size) := ⟨B9.size, HG.out.h.size, range_lt HG.out.b.1 (Nat.succ_pos _), range_lt HG.out.a.1 (Nat.succ_pos _), (HG.out.o.low rfl).2, range_lt VP.out.1 (Nat.succ_pos _)⟩
                    have HG : Hid (Gs w y2 w.heap.size w1.heap.size (rmc s1 (.slice (some ⟨g, 0, none⟩) n cap)) (rmc s2 v2) (.slice (some ⟨G, 0, none⟩) ll cG) (l)) := HG.out.below B9
                    have VP : Hid (Vr y2 P (pc p)) := VP.out.below B9 (range_lt VP.out.1 (Nat.succ_pos _))
                    have hS : y2.rangeAt P 0 (pc p) := VP.out.1
                    clear O9 B9
                    refine hK.out _ _ hS (fun _ => ?_)
                    simp only [Act.put, List.setIfInBounds_toArray, List.set_cons_zero, List.set_cons_succ]
                    clear hK K
                    refine wpAnyH_ready (rs := [5]) (by kernel_rfl) (by simp) ?_
                    refine AllReadyH.cons rfl (fun K hK => ?_) AllReadyH.nil
                    refine step_pushsP y2 rfl (some 66) rfl (.tmp 62) (.tmp 65) rfl y1.heap.size W0.out.1 (.slice (some ⟨y1.heap.size, 0, none⟩) 1 1) vx [p] (l.drop a) rfl rfl RO.out (HG.out.dr L9.out HA2.out VX.out) (by have := GG.out; simp only [List.length_cons, List.length_nil, List.length_drop]; omega) ?_
                    intro v66 y3 O9 G9
                    have RO : Hid (Os y1.heap.size y3 v66 (p :: l.drop a)) := O9
                    have HG : Hid (Gs w y3 w.heap.size w1.heap.size (rmc s1 (.slice (some ⟨g, 0, none⟩) n cap)) (rmc s2 v2) (.slice (some ⟨G, 0, none⟩) ll cG) (l)) := HG.out.grown G9 (fun k hk => by have := W0.out; have := blk_mk hk; refine ⟨by omega, by omega, by omega, fun e => ?_⟩; have := blk_mk e; omega)
                    have VP : Hid (Vr y3 P (pc p)) := VP.out.heap (G9.block P (range_lt VP.out.1 (Nat.succ_pos _)) (fun e => by have := W0.out; have := blk_mk (k := P) e.symm; omega))
                    have hS : y3.rangeAt P 0 (pc p) := VP.out.1
                    clear O9 G9 NB
                    refine hK.out _ _ hS (fun _ => ?_)
                    simp only [Act.put, List.setIfInBounds_toArray, List.set_cons_zero, List.set_cons_succ]
                    clear hK K
                    refine take_lawH 6 (some 11) (v66) rfl rfl (by kernel_rfl) (by kernel_rfl) (by kernel_rfl) (fun _ _ _ h => h) (Or.inl ⟨by rfl, fun w' hw' => by rfl⟩) hS ?_
                    simp only [Act.put, List.setIfInBounds_toArray, List.set_cons_zero, List.set_cons_succ]
                    refine wpAnyH_done (by kernel_rfl) ?_ _
                    have t0 : (0 : Nat) = 0 := rfl
                    go_wp2_with (first
                      | (have qq := t2; have a1 : y3.heap.size ≤ w7.heap.size := B4.out; have a2 : Sr w7 v66 (p :: l.drop a) := RO.out.sr; have a3 : (l.take a).length + (p :: l.drop a).length ≤ 300000 := (by have := GG.out; simp only [List.length_cons, List.length_take, List.length_drop]; omega); have a4 : Os y3.heap.size w7 v71 (l.take a) := O4.out; refine pushs_lawP _ rfl (.tmp 71) (.tmp 72) rfl y3.heap.size a1 v71 v66 (l.take a) (p :: l.drop a) rfl rfl a4 a2 a3 ?_; intro v73 w8 O9 G9; have HF : Hid (Gs w w8 w.heap.size w1.heap.size (rmc s1 (.slice (some ⟨g, 0, none⟩) n cap)) (rmc s2 v2) v73 (ins p l)) := HG.out.swap G9 O9 (fun k hk => by have := O4.out.low hk; have := W0.out; have := WZ.out; omega) (by have := WZ.out; have := W0.out; omega) (by have := WZ.out; have := W0.out; omega) (by have := WZ.out; have := W0.out; omega) IA.out; clear O9 G9 a1 a2 a3 a4 t2)
                      | (have qq := t5; refine to_lawP _ rfl (.tmp 68) (.tmp 69) rfl G ll cG a rfl rfl (by have := HCG.out; have := HA2.out; omega) ?_; clear t5; have t1 : (0 : Nat) = 0 := rfl)
                      | (have qq := t1; refine pushs_lawP _ rfl (.tmp 67) (.tmp 70) rfl y3.heap.size BN.out.size _ _ [] (l.take a) rfl rfl O3.out (HG.out.tk L9.out HA2.out) (by have := GG.out; simp only [List.length_nil, List.length_take]; omega) ?_; intro v71 w7 O9 G9; have O4 : Hid (Os y3.heap.size w7 v71 (l.take a)) := O9; have RO : Hid (Os y1.heap.size w7 v66 (p :: l.drop a)) := RO.out.ch (P := fun k => k = y3.heap.size) (Ch.of_grown (P := fun k => k = y3.heap.size) G9 rfl) (fun k hk e => by have := RW.out k hk; omega); have HG : Hid (Gs w w7 w.heap.size w1.heap.size (rmc s1 (.slice (some ⟨g, 0, none⟩) n cap)) (rmc s2 v2) (.slice (some ⟨G, 0, none⟩) ll cG) (l)) := HG.out.grown G9 (fun k hk => by have := W0.out; have := WZ.out; have := blk_mk hk; refine ⟨by omega, by omega, by omega, fun e => ?_⟩; have := blk_mk e; omega); have B4 : Hid (y3.heap.size ≤ w7.heap.size) := Nat.le_trans BN.out.size G9.size; clear O9 G9 O3 BN t1; have t2 : (0 : Nat) = 0 := rfl)
                      | (have qq := t0; refine nil_lawP _ rfl rfl ?_; intro w6 O9 B9 _; have O3 : Hid (Os y3.heap.size w6 (.slice (some ⟨y3.heap.size, 0, none⟩) 0 0) []) := Os.nil O9; have BN : Hid (Below y3.heap.size y3 w6) := B9; have RW : Hid (∀ k, Blk v66 k → k < y3.heap.size) := fun k hk => (RO.out.low hk).2; have WZ : Hid (y1.heap.size ≤ y3.heap.size) := (by obtain ⟨g9, c9, e9, _⟩ := RO.out; have := RO.out.low (k := g9) (by rw [e9]; rfl); show _ ≤ _; omega); have RO : Hid (Os y1.heap.size w6 v66 (p :: l.drop a)) := RO.out.below B9; have HG : Hid (Gs w w6 w.heap.size w1.heap.size (rmc s1 (.slice (some ⟨g, 0, none⟩) n cap)) (rmc s2 v2) (.slice (some ⟨G, 0, none⟩) ll cG) (l)) := HG.out.below B9; clear O9 B9 t0; have t5 : (0 : Nat) = 0 := rfl))
                    go_roundw
                    case rel => exact ⟨k + 1, _, by omega, by go_num, rfl, by rw [LL.out, CE.out]; exact HF⟩
                    case measure => simp [intOf]; omega
                · have a1 : ¬ (a : Int) < (ll : Int) := by omega
                  have IA : Hid (l.take a ++ (p :: l.drop a) = ins p l) := (ins_at p l a (by have := L9.out; omega) HV.out (fun q hq => by have := (List.getElem?_eq_some_iff.1 hq).1; have := L9.out; omega)).symm
                  clear HV
                  go_wp2
                  go_quiet (fail)
                  have HG : Hid (Gs w (wr.drewN nq) w.heap.size w1.heap.size (rmc s1 (.slice (some ⟨g, 0, none⟩) n cap)) (rmc s2 v2) (.slice (some ⟨G, 0, none⟩) ll cG) (l)) := HG.out.below (below_dr (Below.refl _ _) _)
                  have VP : Hid (Vr (wr.drewN nq) P (pc p)) := VP.out.drewN _
                  obtain ⟨wz, hwz⟩ : ∃ z, z = wr.drewN nq := ⟨_, rfl⟩
                  rw [← hwz] at HG VP ⊢
                  clear hwz
                  go_wp2
                  obtain ⟨vx, hvx⟩ : ∃ z, z = sliced (some ⟨G, 0, none⟩) a ll cG 2 := ⟨_, rfl⟩
                  have VX : Hid (vx = sliced (some ⟨G, 0, none⟩) a ll cG 2) := hvx
                  clear hvx
                  have HG : Hid (Gs w wz.drew w.heap.size w1.heap.size (rmc s1 (.slice (some ⟨g, 0, none⟩) n cap)) (rmc s2 v2) (.slice (some ⟨G, 0, none⟩) ll cG) (l)) := HG.out.below (below_dr (Below.refl _ _) 1)
                  have VP : Hid (Vr wz.drew P (pc p)) := VP.out.drewN 1
                  refine wp_region_held_drew (S := fun w' => w'.rangeAt P 0 (pc p)) (by kernel_rfl) VP.out.1 (fun hS => ?_)
                  obtain ⟨y1, hx0⟩ : ∃ x, x = wz.drew := ⟨_, rfl⟩
                  rw [← hx0] at hS HG VP ⊢
                  clear hx0
                  refine take_lawH 0 (some 61) (.agg (pc p).toArray) rfl rfl (by kernel_rfl) (by kernel_rfl) (by kernel_rfl) (fun _ _ _ h => h) (Or.inl ⟨by rfl, fun w' hw' => by exact exec_loadN 31 (.tmp 7) rfl _ rfl _ _ (load_cells rowy_place hw')⟩) hS ?_
                  simp only [Act.put, List.setIfInBounds_toArray, List.set_cons_zero, List.set_cons_succ]
                  refine take_lawH 2 (some 63) ((.slice (some ⟨G, 0, none⟩) ll cG)) rfl rfl (by kernel_rfl) (by kernel_rfl) (by kernel_rfl) (fun _ _ _ h => h) (Or.inl ⟨by rfl, fun w' hw' => by rfl⟩) hS ?_
                  simp only [Act.put, List.setIfInBounds_toArray, List.set_cons_zero, List.set_cons_succ]
                  refine take_lawH 3 (some 64) (.int .i64 (a : Int)) rfl rfl (by kernel_rfl) (by kernel_rfl) (by kernel_rfl) (fun _ _ _ h => h) (Or.inl ⟨by rfl, fun w' hw' => by rfl⟩) hS ?_
                  simp only [Act.put, List.setIfInBounds_toArray, List.set_cons_zero, List.set_cons_succ]
                  refine take_lawH 4 (some 65) (vx) rfl rfl (by kernel_rfl) (by kernel_rfl) (by kernel_rfl) (fun _ _ _ h => h) (Or.inl ⟨by rfl, fun w' hw' => by exact exec_fromP (.tmp 63) (.tmp 64) rfl (some ⟨G, 0, none⟩) ll cG a rfl rfl HA2.out vx VX.out _⟩) hS ?_
                  simp only [Act.put, List.setIfInBounds_toArray, List.set_cons_zero, List.set_cons_succ]
                  refine wpAnyH_ready (rs := [1]) (by kernel_rfl) (by simp) ?_
                  refine AllReadyH.cons rfl (fun K hK => ?_) AllReadyH.nil
                  refine step_oneP y1 rfl (some 62) rfl (.tmp 61) p rfl rfl ?_
                  intro y2 O9 B9
                  have RO : Hid (Os y1.heap.size y2 (.slice (some ⟨y1.heap.size, 0, none⟩) 1 1) [p]) := O9
                  have NB : Hid (∀ k, k < y1.heap.size → ¬ Blk (.slice (some ⟨y1.heap.size, 0, none⟩) 1 1) k) := fun k hk e => by have := blk_mk e; omega
                  have W0 : Hid (y1.heap.size ≤ y2.heap.size ∧ w.heap.size ≤ y1.heap.size ∧ w1.heap.size < y1.heap.size ∧ w.heap.size < y1.heap.size ∧ G < y1.heap.size ∧ P < y1.heap.size) := ⟨B9.size, HG.out.h.size, range_lt HG.out.b.1 (Nat.succ_pos _), range_lt HG.out.a.1 (Nat.succ_pos _), (HG.out.o.low rfl).2, range_lt VP.out.1 (Nat.succ_pos _)⟩
                  have HG : Hid (Gs w y2 w.heap.size w1.heap.size (rmc s1 (.slice (some ⟨g, 0, none⟩) n cap)) (rmc s2 v2) (.slice (some ⟨G, 0, none⟩) ll cG) (l)) := HG.out.below B9
                  have VP : Hid (Vr y2 P (pc p)) := VP.out.below B9 (range_lt VP.out.1 (Nat.succ_pos _))
                  have hS : y2.rangeAt P 0 (pc p) := VP.out.1
                  clear O9 B9
                  refine hK.out _ _ hS (fun _ => ?_)
                  simp only [Act.put, List.setIfInBounds_toArray, List.set_cons_zero, List.set_cons_succ]
                  clear hK K
                  refine wpAnyH_ready (rs := [5]) (by kernel_rfl) (by simp) ?_
                  refine AllReadyH.cons rfl (fun K hK => ?_) AllReadyH.nil
                  refine step_pushsP y2 rfl (some 66) rfl (.tmp 62) (.tmp 65) rfl y1.heap.size W0.out.1 (.slice (some ⟨y1.heap.size, 0, none⟩) 1 1) vx [p] (l.drop a) rfl rfl RO.out (HG.out.dr L9.out HA2.out VX.out) (by have := GG.out; simp only [List.length_cons, List.length_nil, List.length_drop]; omega) ?_
                  intro v66 y3 O9 G9
                  have RO : Hid (Os y1.heap.size y3 v66 (p :: l.drop a)) := O9
                  have HG : Hid (Gs w y3 w.heap.size w1.heap.size (rmc s1 (.slice (some ⟨g, 0, none⟩) n cap)) (rmc s2 v2) (.slice (some ⟨G, 0, none⟩) ll cG) (l)) := HG.out.grown G9 (fun k hk => by have := W0.out; have := blk_mk hk; refine ⟨by omega, by omega, by omega, fun e => ?_⟩; have := blk_mk e; omega)
                  have VP : Hid (Vr y3 P (pc p)) := VP.out.heap (G9.block P (range_lt VP.out.1 (Nat.succ_pos _)) (fun e => by have := W0.out; have := blk_mk (k := P) e.symm; omega))
                  have hS : y3.rangeAt P 0 (pc p) := VP.out.1
                  clear O9 G9 NB
                  refine hK.out _ _ hS (fun _ => ?_)
                  simp only [Act.put, List.setIfInBounds_toArray, List.set_cons_zero, List.set_cons_succ]
                  clear hK K
                  refine take_lawH 6 (some 11) (v66) rfl rfl (by kernel_rfl) (by kernel_rfl) (by kernel_rfl) (fun _ _ _ h => h) (Or.inl ⟨by rfl, fun w' hw' => by rfl⟩) hS ?_
                  simp only [Act.put, List.setIfInBounds_toArray, List.set_cons_zero, List.set_cons_succ]
                  refine wpAnyH_done (by kernel_rfl) ?_ _
                  have t0 : (0 : Nat) = 0 := rfl
                  go_wp2_with (first
                    | (have qq := t2; have a1 : y3.heap.size ≤ w7.heap.size := B4.out; have a2 : Sr w7 v66 (p :: l.drop a) := RO.out.sr; have a3 : (l.take a).length + (p :: l.drop a).length ≤ 300000 := (by have := GG.out; simp only [List.length_cons, List.length_take, List.length_drop]; omega); have a4 : Os y3.heap.size w7 v71 (l.take a) := O4.out; refine pushs_lawP _ rfl (.tmp 71) (.tmp 72) rfl y3.heap.size a1 v71 v66 (l.take a) (p :: l.drop a) rfl rfl a4 a2 a3 ?_; intro v73 w8 O9 G9; have HF : Hid (Gs w w8 w.heap.size w1.heap.size (rmc s1 (.slice (some ⟨g, 0, none⟩) n cap)) (rmc s2 v2) v73 (ins p l)) := HG.out.swap G9 O9 (fun k hk => by have := O4.out.low hk; have := W0.out; have := WZ.out; omega) (by have := WZ.out; have := W0.out; omega) (by have := WZ.out; have := W0.out; omega) (by have := WZ.out; have := W0.out; omega) IA.out; clear O9 G9 a1 a2 a3 a4 t2)
                    | (have qq := t5; refine to_lawP _ rfl (.tmp 68) (.tmp 69) rfl G ll cG a rfl rfl (by have := HCG.out; have := HA2.out; omega) ?_; clear t5; have t1 : (0 : Nat) = 0 := rfl)
                    | (have qq := t1; refine pushs_lawP _ rfl (.tmp 67) (.tmp 70) rfl y3.heap.size BN.out.size _ _ [] (l.take a) rfl rfl O3.out (HG.out.tk L9.out HA2.out) (by have := GG.out; simp only [List.length_nil, List.length_take]; omega) ?_; intro v71 w7 O9 G9; have O4 : Hid (Os y3.heap.size w7 v71 (l.take a)) := O9; have RO : Hid (Os y1.heap.size w7 v66 (p :: l.drop a)) := RO.out.ch (P := fun k => k = y3.heap.size) (Ch.of_grown (P := fun k => k = y3.heap.size) G9 rfl) (fun k hk e => by have := RW.out k hk; omega); have HG : Hid (Gs w w7 w.heap.size w1.heap.size (rmc s1 (.slice (some ⟨g, 0, none⟩) n cap)) (rmc s2 v2) (.slice (some ⟨G, 0, none⟩) ll cG) (l)) := HG.out.grown G9 (fun k hk => by have := W0.out; have := WZ.out; have := blk_mk hk; refine ⟨by omega, by omega, by omega, fun e => ?_⟩; have := blk_mk e; omega); have B4 : Hid (y3.heap.size ≤ w7.heap.size) := Nat.le_trans BN.out.size G9.size; clear O9 G9 O3 BN t1; have t2 : (0 : Nat) = 0 := rfl)
                    | (have qq := t0; refine nil_lawP _ rfl rfl ?_; intro w6 O9 B9 _; have O3 : Hid (Os y3.heap.size w6 (.slice (some ⟨y3.heap.size, 0, none⟩) 0 0) []) := Os.nil O9; have BN : Hid (Below y3.heap.size y3 w6) := B9; have RW : Hid (∀ k, Blk v66 k → k < y3.heap.size) := fun k hk => (RO.out.low hk).2; have WZ : Hid (y1.heap.size ≤ y3.heap.size) := (by obtain ⟨g9, c9, e9, _⟩ := RO.out; have := RO.out.low (k := g9) (by rw [e9]; rfl); show _ ≤ _; omega); have RO : Hid (Os y1.heap.size w6 v66 (p :: l.drop a)) := RO.out.below B9; have HG : Hid (Gs w w6 w.heap.size w1.heap.size (rmc s1 (.slice (some ⟨g, 0, none⟩) n cap)) (rmc s2 v2) (.slice (some ⟨G, 0, none⟩) ll cG) (l)) := HG.out.below B9; clear O9 B9 t0; have t5 : (0 : Nat) = 0 := rfl))
                  go_roundw
                  case rel => exact ⟨k + 1, _, by omega, by go_num, rfl, by rw [LL.out, CE.out]; exact HF⟩
                  case measure => simp [intOf]; omega

    · have k1 : ¬ (k : Int) < (n : Int) := by omega
      go_wp2
      go_ret
      refine ⟨v, rfl, ?_, fun k hk => HG.out.o.low hk, HG.out.h⟩
      have z := HG.out.o.out
      rwa [List.take_of_length_le (by have := NN.out; omega)] at z
end Go.Proofs.Ytedmmpognhpbdaa.pm
