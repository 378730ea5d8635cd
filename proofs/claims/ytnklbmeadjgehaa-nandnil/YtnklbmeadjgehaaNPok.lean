/- What nand's Poke and Read answer and do; what is answered of a nil array. No claim of its own. -/
import Derived.Test.YtnklbmeadjgehaaNErs
namespace Go.Proofs.Ytnklbmeadjgehaa.na
open Go.RowKit Go.Proofs.Ytnklbmeadjgehaa.fa
set_option maxRecDepth 20000

theorem set_all {xs : List Int} {a : Nat} {x : Int} (hx : AllB xs) (h : 0 ≤ x ∧ x ≤ 255) (ha : a < xs.length) : AllB (xs.set a x) := fun j => by
  rw [gb_set1 xs a j x ha]
  split
  · exact h
  · exact hx j
section
variable {M : Nat → Bool} {w : World} {c r d : Nat} {q : Nat → Nat} {pv tv : Value} {g : List Int} {N P S : Nat} {pl : Pln} {X : Raw}

set_option maxHeartbeats 2000000 in
theorem poke_on (h : Lay M w c r d q pv tv g N P S pl X) (p : List Int) (a x : Int) (ho : xo X = true) :
    Calls Try.prog 32 #[.pointer (some ⟨c, 0, none⟩), .agg (ints .i64 p), .int .i64 a, .int .u8 x] w fun e w' => e = .returned (.int .i64 4) ∧ Below w.heap.size w w' := by
  have HL : Hid (Lay M w c r d q pv tv g N P S pl X) := h
  have HON : Hid (xo X = true) := ho
  clear h ho
  have t0 : (0 : Nat) = 0 := rfl
  go_enter Try.func32, Try.ntmps32
  go_wp2_with (first
    | (have q0 := t0; refine box_lawF _ rfl (.tmp 1) 43 rfl .i64 p rfl ?_; intro w1 X1 B1 l1; have HP : Hid (Ar w1 w.heap.size 0 .i64 p) := X1; have HL : Hid (Lay M w1 c r d q pv tv g N P S pl X) := HL.out.below B1; have f7 : w1.cell? ⟨c, 7, none⟩ = some (.bool true) := by rw [← HON.out]; exact HL.out.cells.2.1
       have BB : Hid (Below w.heap.size w w1) := B1; clear X1 B1 t0; have t1 : (1 : Nat) = 1 := rfl))
  go_ret
  exact ⟨rfl, BB.out⟩

set_option maxHeartbeats 2000000 in
theorem poke_no (h : Lay M w c r d q pv tv g N P S pl X) (p : List Int) (hp : p.length = 2) (a x : Int) (ho : xo X = false) (hn : ¬ (0 ≤ gb p 0 ∧ gb p 0 < N ∧ 0 ≤ gb p 1 ∧ gb p 1 < P)) :
    Calls Try.prog 32 #[.pointer (some ⟨c, 0, none⟩), .agg (ints .i64 p), .int .i64 a, .int .u8 x] w fun e w' => e = .returned (.int .i64 2) ∧ Below w.heap.size w w' := by
  have HL : Hid (Lay M w c r d q pv tv g N P S pl X) := h
  have HON : Hid (xo X = false) := ho
  have HN : Hid (¬ (0 ≤ gb p 0 ∧ gb p 0 < N ∧ 0 ≤ gb p 1 ∧ gb p 1 < P)) := hn
  clear h ho hn
  have t0 : (0 : Nat) = 0 := rfl
  have t2 : (1 : Nat) = 1 := rfl
  go_enter Try.func32, Try.ntmps32
  go_wp2_with (first
    | (have q3 := t3; go_at_call 48; refine (pageCells_no HL.out p hp HN.out).mono ?_; rintro e w3 ⟨rfl, B3⟩; have HL : Hid (Lay M w3 c r d q pv tv g N P S pl X) := HL.out.below B3; have BB : Hid (Below w.heap.size w w3) := BB.out.trans (B3.mono BB.out.size); clear B3 t3; have t4 : (1 : Nat) = 1 := rfl)
    | (have q2 := t2; refine load_lawS _ (by rfl) _ _ rfl (ld_place hp HP.out.1) ?_; clear t2; have t3 : (1 : Nat) = 1 := rfl)
    | (have q0 := t0; refine box_lawF _ rfl (.tmp 1) 43 rfl .i64 p rfl ?_; intro w1 X1 B1 l1; have HP : Hid (Ar w1 w.heap.size 0 .i64 p) := X1; have HL : Hid (Lay M w1 c r d q pv tv g N P S pl X) := HL.out.below B1; have f7 : w1.cell? ⟨c, 7, none⟩ = some (.bool false) := by rw [← HON.out]; exact HL.out.cells.2.1
       have BB : Hid (Below w.heap.size w w1) := B1; clear X1 B1 t0; have t1 : (1 : Nat) = 1 := rfl))
  go_ret
  exact ⟨rfl, BB.out⟩

set_option maxHeartbeats 2000000 in
theorem poke_low (h : Lay M w c r d q pv tv g N P S pl X) (p : List Int) (hp : p.length = 2) (a x : Int) (ho : xo X = false) (b j : Nat) (e0 : gb p 0 = b) (e1 : gb p 1 = j) (hb : b < N) (hj : j < P) (ha : a < 0) :
    Calls Try.prog 32 #[.pointer (some ⟨c, 0, none⟩), .agg (ints .i64 p), .int .i64 a, .int .u8 x] w fun e w' => e = .returned (.int .i64 2) ∧ Below w.heap.size w w' := by
  have HL : Hid (Lay M w c r d q pv tv g N P S pl X) := h
  have HON : Hid (xo X = false) := ho
  obtain ⟨n, hn⟩ : ∃ n, n = b * P + j := ⟨_, rfl⟩
  have HPG : Hid (gb p 0 = b ∧ gb p 1 = j ∧ b < N ∧ j < P ∧ n = b * P + j) := ⟨e0, e1, hb, hj, hn⟩
  clear h ho e0 e1 hb hj hn
  have t0 : (0 : Nat) = 0 := rfl
  have t2 : (1 : Nat) = 1 := rfl
  go_enter Try.func32, Try.ntmps32
  go_wp2_with (first
    | (have q3 := t3; go_at_call 48; refine (pageCells_yes HL.out p hp b j n HPG.out.1 HPG.out.2.1 HPG.out.2.2.1 HPG.out.2.2.2.1 HPG.out.2.2.2.2).mono ?_; rintro e w3 ⟨rfl, B3⟩; have HL : Hid (Lay M w3 c r d q pv tv g N P S pl X) := HL.out.below B3; have BB : Hid (Below w.heap.size w w3) := BB.out.trans (B3.mono BB.out.size); clear B3 t3; have t4 : (1 : Nat) = 1 := rfl)
    | (have q2 := t2; refine load_lawS _ (by rfl) _ _ rfl (ld_place hp HP.out.1) ?_; clear t2; have t3 : (1 : Nat) = 1 := rfl)
    | (have q0 := t0; refine box_lawF _ rfl (.tmp 1) 43 rfl .i64 p rfl ?_; intro w1 X1 B1 l1; have HP : Hid (Ar w1 w.heap.size 0 .i64 p) := X1; have HL : Hid (Lay M w1 c r d q pv tv g N P S pl X) := HL.out.below B1; have f7 : w1.cell? ⟨c, 7, none⟩ = some (.bool false) := by rw [← HON.out]; exact HL.out.cells.2.1
       have BB : Hid (Below w.heap.size w w1) := B1; clear X1 B1 t0; have t1 : (1 : Nat) = 1 := rfl))
  go_ret
  exact ⟨rfl, BB.out⟩

set_option maxHeartbeats 2000000 in
theorem poke_high (h : Lay M w c r d q pv tv g N P S pl X) (p : List Int) (hp : p.length = 2) (a x : Int) (ho : xo X = false) (b j : Nat) (e0 : gb p 0 = b) (e1 : gb p 1 = j) (hb : b < N) (hj : j < P) (ha : (S : Int) ≤ a) (h0 : 0 ≤ a) :
    Calls Try.prog 32 #[.pointer (some ⟨c, 0, none⟩), .agg (ints .i64 p), .int .i64 a, .int .u8 x] w fun e w' => e = .returned (.int .i64 2) ∧ Below w.heap.size w w' := by
  have HL : Hid (Lay M w c r d q pv tv g N P S pl X) := h
  have HON : Hid (xo X = false) := ho
  obtain ⟨n, hn⟩ : ∃ n, n = b * P + j := ⟨_, rfl⟩
  have HPG : Hid (gb p 0 = b ∧ gb p 1 = j ∧ b < N ∧ j < P ∧ n = b * P + j) := ⟨e0, e1, hb, hj, hn⟩
  have h0' : ¬ (a < 0) := by omega
  clear h ho e0 e1 hb hj hn
  have t0 : (0 : Nat) = 0 := rfl
  have t2 : (1 : Nat) = 1 := rfl
  go_enter Try.func32, Try.ntmps32
  go_wp2_with (first
    | (have q3 := t3; go_at_call 48; refine (pageCells_yes HL.out p hp b j n HPG.out.1 HPG.out.2.1 HPG.out.2.2.1 HPG.out.2.2.2.1 HPG.out.2.2.2.2).mono ?_; rintro e w3 ⟨rfl, B3⟩; have HL : Hid (Lay M w3 c r d q pv tv g N P S pl X) := HL.out.below B3; have BB : Hid (Below w.heap.size w w3) := BB.out.trans (B3.mono BB.out.size); clear B3 t3; have t4 : (1 : Nat) = 1 := rfl)
    | (have q2 := t2; refine load_lawS _ (by rfl) _ _ rfl (ld_place hp HP.out.1) ?_; clear t2; have t3 : (1 : Nat) = 1 := rfl)
    | (have q0 := t0; refine box_lawF _ rfl (.tmp 1) 43 rfl .i64 p rfl ?_; intro w1 X1 B1 l1; have HP : Hid (Ar w1 w.heap.size 0 .i64 p) := X1; have HL : Hid (Lay M w1 c r d q pv tv g N P S pl X) := HL.out.below B1; have f7 : w1.cell? ⟨c, 7, none⟩ = some (.bool false) := by rw [← HON.out]; exact HL.out.cells.2.1
       have BB : Hid (Below w.heap.size w w1) := B1; clear X1 B1 t0; have t1 : (1 : Nat) = 1 := rfl))
  go_ret
  exact ⟨rfl, BB.out⟩

set_option maxHeartbeats 2000000 in
theorem poke_do (h : Lay M w c r d q pv tv g N P S pl X) (hM : Mlt M w) (p : List Int) (hp : p.length = 2) (a x : Int) (ho : xo X = false) (b j : Nat) (e0 : gb p 0 = b) (e1 : gb p 1 = j) (hb : b < N) (hj : j < P) (k : Nat) (ha : a = k) (hk : k < S) (hx : 0 ≤ x ∧ x ≤ 255) :
    Calls Try.prog 32 #[.pointer (some ⟨c, 0, none⟩), .agg (ints .i64 p), .int .i64 a, .int .u8 x] w (Done M w c r d q pv g N P S pl 0 (mkX ((xi X).set ((b * P + j) * S + k) x) (xp X) (xe X) (xs X) (xo X) (xt X))) := by
  have HL : Hid (Lay M w c r d q pv tv g N P S pl X) := h
  have HON : Hid (xo X = false) := ho
  obtain ⟨n, hn⟩ : ∃ n, n = b * P + j := ⟨_, rfl⟩
  have HPG : Hid (gb p 0 = b ∧ gb p 1 = j ∧ b < N ∧ j < P ∧ n = b * P + j) := ⟨e0, e1, hb, hj, hn⟩
  have HXB : Hid (0 ≤ x ∧ x ≤ 255) := hx
  have HK : Hid (n * S + k < N * (P * S)) := by
    have := (idx_fits (S := S) hb hj).1
    rw [← hn, Nat.succ_mul] at this
    show _ < _
    omega
  have i0 : ¬ ((k : Int) < 0) := by omega
  have i1 : ¬ ((S : Int) ≤ (k : Int)) := by omega
  have i2 : (0 : Int) ≤ (k : Int) := by omega
  have i3 : (k : Int) < (S : Int) := by omega
  have HM : Hid (Mlt M w) := hM
  subst ha
  rw [← hn]
  clear h ho e0 e1 hb hj hn hx hk hM
  have t0 : (0 : Nat) = 0 := rfl
  have t2 : (1 : Nat) = 1 := rfl
  go_enter Try.func32, Try.ntmps32
  go_wp2_with (first
    | (have q_4 := t4; refine store_law1 _ d (n * S + k) (.int .u8 x) rfl rfl (HA4.out).1 (HA4.out).2.1 i_u8 rfl rfl ?_; intro w5 e5
       have g5 : w3.grownBy w5 (some d) := by rw [e5.out]; exact keep_set _ _ _ _
       have HL5 : Hid (Lay M w5 c r d q pv tv g N P S pl (mkX ((xi X).set (n * S + k) x) (xp X) (xe X) (xs X) (xo X) (xt X))) := by
         refine HL.out.img g5 _ ?_ (by rw [List.length_set]; exact HL.out.2.2.2.2.1.2.1) (set_all HL.out.2.2.2.2.1.2.2 HXB.out (by rw [HL.out.2.2.2.2.1.2.1]; exact HK.out))
         rw [e5.out]
         exact HL.out.2.2.2.2.1.1.set0 (n * S + k) (by rw [HL.out.2.2.2.2.1.2.1]; exact HK.out) x
       have F5 : Hid (Frm M w w5) := (Frm.of_below BB.out).tr (Frm.grown g5 (fun k e => by injection e with e; subst e; exact HL.out.2.1.1.2.2.1))
       clear e5 g5 t4)
    | (have q3 := t3; go_at_call 48; refine (pageCells_yes HL.out p hp b j n HPG.out.1 HPG.out.2.1 HPG.out.2.2.1 HPG.out.2.2.2.1 HPG.out.2.2.2.2).mono ?_; rintro e w3 ⟨rfl, B3⟩; have HL : Hid (Lay M w3 c r d q pv tv g N P S pl X) := HL.out.below B3; have BB : Hid (Below w.heap.size w w3) := BB.out.trans (B3.mono BB.out.size); have HA4 : Hid ((w3.cell? ⟨d, n * S + k, none⟩).isSome = true ∧ w3.frozen? ⟨d, n * S + k, none⟩ = false ∧ True) := ⟨by rw [HL.out.2.2.2.2.1.1.cell0 (n * S + k) (by rw [HL.out.2.2.2.2.1.2.1]; exact HK.out)]; rfl, HL.out.2.2.2.2.1.1.free0 (n * S + k) (by rw [HL.out.2.2.2.2.1.2.1]; exact HK.out), trivial⟩; clear B3 t3; have t4 : (1 : Nat) = 1 := rfl)
    | (have q2 := t2; refine load_lawS _ (by rfl) _ _ rfl (ld_place hp HP.out.1) ?_; clear t2; have t3 : (1 : Nat) = 1 := rfl)
    | (have q0 := t0; refine box_lawF _ rfl (.tmp 1) 43 rfl .i64 p rfl ?_; intro w1 X1 B1 l1; have HP : Hid (Ar w1 w.heap.size 0 .i64 p) := X1; have HL : Hid (Lay M w1 c r d q pv tv g N P S pl X) := HL.out.below B1; have f7 : w1.cell? ⟨c, 7, none⟩ = some (.bool false) := by rw [← HON.out]; exact HL.out.cells.2.1
       have BB : Hid (Below w.heap.size w w1) := B1; clear X1 B1 t0; have t1 : (1 : Nat) = 1 := rfl))
  go_ret
  exact ⟨M, tv, rfl, HL5.out, fun _ _ => rfl, F5.out, fun k hk => Nat.lt_of_lt_of_le (HM.out k hk) F5.out.size⟩

set_option maxHeartbeats 2000000 in
theorem read_off (h : Lay M w c r d q pv tv g N P S pl X) (p : List Int) (ho : xo X = false) :
    Calls Try.prog 22 #[.pointer (some ⟨c, 0, none⟩), .agg (ints .i64 p)] w fun e w' => e = .returned (.tuple #[.slice none 0 0, .int .i64 4]) ∧ Below w.heap.size w w' := by
  have HL : Hid (Lay M w c r d q pv tv g N P S pl X) := h
  have HON : Hid (xo X = false) := ho
  clear h ho
  have t0 : (0 : Nat) = 0 := rfl
  go_enter Try.func22, Try.ntmps22
  go_wp2_with (first
    | (have q1 := t1; go_at_call 17; refine (on_any c _ _ HL.out.cells.2.1).mono ?_; rintro e w' ⟨rfl, hw⟩; obtain rfl := hw.symm; rw [HON.out]; clear t1; have t2 : (1 : Nat) = 1 := rfl)
    | (have q0 := t0; refine box_lawF _ rfl (.tmp 1) 43 rfl .i64 p rfl ?_; intro w1 X1 B1 l1; have HP : Hid (Ar w1 w.heap.size 0 .i64 p) := X1; have HL : Hid (Lay M w1 c r d q pv tv g N P S pl X) := HL.out.below B1; have BB : Hid (Below w.heap.size w w1) := B1; clear X1 B1 t0; have t1 : (1 : Nat) = 1 := rfl))
  go_ret2
  exact ⟨rfl, BB.out⟩

set_option maxHeartbeats 2000000 in
theorem read_no (h : Lay M w c r d q pv tv g N P S pl X) (p : List Int) (hp : p.length = 2) (ho : xo X = true) (hn : ¬ (0 ≤ gb p 0 ∧ gb p 0 < N ∧ 0 ≤ gb p 1 ∧ gb p 1 < P)) :
    Calls Try.prog 22 #[.pointer (some ⟨c, 0, none⟩), .agg (ints .i64 p)] w fun e w' => ∃ v, e = .returned (.tuple #[v, .int .i64 2]) ∧ Byt w' v [] ∧ Below w.heap.size w w' := by
  have HL : Hid (Lay M w c r d q pv tv g N P S pl X) := h
  have HON : Hid (xo X = true) := ho
  have HN : Hid (¬ (0 ≤ gb p 0 ∧ gb p 0 < N ∧ 0 ≤ gb p 1 ∧ gb p 1 < P)) := hn
  clear h ho hn
  have t0 : (0 : Nat) = 0 := rfl
  go_enter Try.func22, Try.ntmps22
  go_wp2_with (first
    | (have q4 := t4; go_at_call 46; refine (bclone_any _ [] _ (Byt.nil _) (by simp)).mono ?_; rintro e w5 ⟨v5, rfl, y5, B5⟩; have Y5 : Hid (Bow w3.heap.size w5 v5 ([])) := y5; have BB5 : Hid (Below w.heap.size w w5) := BB.out.trans (B5.mono BB.out.size); have Z3 : Hid (w.heap.size ≤ w3.heap.size) := BB.out.size; clear y5 B5 t4)
    | (have q3 := t3; go_at_call 48; refine (pageCells_no HL.out p hp HN.out).mono ?_; rintro e w3 ⟨rfl, B3⟩; have HL : Hid (Lay M w3 c r d q pv tv g N P S pl X) := HL.out.below B3; have BB : Hid (Below w.heap.size w w3) := BB.out.trans (B3.mono BB.out.size); clear B3 t3; have t4 : (1 : Nat) = 1 := rfl)
    | (have q2 := t2; refine load_lawS _ (by rfl) _ _ rfl (ld_place hp HP.out.1) ?_; clear t2; have t3 : (1 : Nat) = 1 := rfl)
    | (have q1 := t1; go_at_call 17; refine (on_any c _ _ HL.out.cells.2.1).mono ?_; rintro e w' ⟨rfl, hw⟩; obtain rfl := hw.symm; rw [HON.out]; clear t1; have t2 : (1 : Nat) = 1 := rfl)
    | (have q0 := t0; refine box_lawF _ rfl (.tmp 1) 43 rfl .i64 p rfl ?_; intro w1 X1 B1 l1; have HP : Hid (Ar w1 w.heap.size 0 .i64 p) := X1; have HL : Hid (Lay M w1 c r d q pv tv g N P S pl X) := HL.out.below B1; have BB : Hid (Below w.heap.size w w1) := B1; clear X1 B1 t0; have t1 : (1 : Nat) = 1 := rfl))
  go_ret2
  exact ⟨_, rfl, Y5.out.1, BB5.out⟩

set_option maxHeartbeats 2000000 in
theorem read_yes (h : Lay M w c r d q pv tv g N P S pl X) (p : List Int) (hp : p.length = 2) (ho : xo X = true) (b j : Nat) (e0 : gb p 0 = b) (e1 : gb p 1 = j) (hb : b < N) (hj : j < P) :
    Calls Try.prog 22 #[.pointer (some ⟨c, 0, none⟩), .agg (ints .i64 p)] w fun e w' => ∃ v, e = .returned (.tuple #[v, .int .i64 0]) ∧ Bow w.heap.size w' v (cut S (xi X) (b * P + j)) ∧ Below w.heap.size w w' := by
  have HL : Hid (Lay M w c r d q pv tv g N P S pl X) := h
  have HON : Hid (xo X = true) := ho
  obtain ⟨n, hn⟩ : ∃ n, n = b * P + j := ⟨_, rfl⟩
  have HPG : Hid (gb p 0 = b ∧ gb p 1 = j ∧ b < N ∧ j < P ∧ n = b * P + j) := ⟨e0, e1, hb, hj, hn⟩
  have HK : Hid (n * S + S ≤ N * (P * S)) := by
    have := (idx_fits (S := S) hb hj).1
    rw [← hn, Nat.succ_mul] at this
    exact this
  have HB := h.bytes
  have HNM := h.num
  rw [← hn]
  clear h ho e0 e1 hb hj hn
  have t0 : (0 : Nat) = 0 := rfl
  go_enter Try.func22, Try.ntmps22
  go_wp2_with (first
    | (have q4 := t4; go_at_call 46; refine (bclone_any _ (cut S (xi X) n) _ (HL.out.part n S HK.out _ (by have := HK.out; omega) (by omega)) (by rw [cut_len2 HL.out n S HK.out]; omega)).mono ?_; rintro e w5 ⟨v5, rfl, y5, B5⟩; have Y5 : Hid (Bow w3.heap.size w5 v5 (cut S (xi X) n)) := y5; have BB5 : Hid (Below w.heap.size w w5) := BB.out.trans (B5.mono BB.out.size); have Z3 : Hid (w.heap.size ≤ w3.heap.size) := BB.out.size; clear y5 B5 t4)
    | (have q3 := t3; go_at_call 48; refine (pageCells_yes HL.out p hp b j n HPG.out.1 HPG.out.2.1 HPG.out.2.2.1 HPG.out.2.2.2.1 HPG.out.2.2.2.2).mono ?_; rintro e w3 ⟨rfl, B3⟩; have HL : Hid (Lay M w3 c r d q pv tv g N P S pl X) := HL.out.below B3; have BB : Hid (Below w.heap.size w w3) := BB.out.trans (B3.mono BB.out.size); clear B3 t3; have t4 : (1 : Nat) = 1 := rfl)
    | (have q2 := t2; refine load_lawS _ (by rfl) _ _ rfl (ld_place hp HP.out.1) ?_; clear t2; have t3 : (1 : Nat) = 1 := rfl)
    | (have q1 := t1; go_at_call 17; refine (on_any c _ _ HL.out.cells.2.1).mono ?_; rintro e w' ⟨rfl, hw⟩; obtain rfl := hw.symm; rw [HON.out]; clear t1; have t2 : (1 : Nat) = 1 := rfl)
    | (have q0 := t0; refine box_lawF _ rfl (.tmp 1) 43 rfl .i64 p rfl ?_; intro w1 X1 B1 l1; have HP : Hid (Ar w1 w.heap.size 0 .i64 p) := X1; have HL : Hid (Lay M w1 c r d q pv tv g N P S pl X) := HL.out.below B1; have BB : Hid (Below w.heap.size w w1) := B1; clear X1 B1 t0; have t1 : (1 : Nat) = 1 := rfl))
  go_ret2
  exact ⟨_, rfl, Y5.out.mono Z3.out, BB5.out⟩
end

/-! ### a nil array -/
theorem program_nil (p : List Int) (vb : Value) (w : World) : Calls Try.prog 29 #[.pointer none, .agg (ints .i64 p), vb] w fun e w' => e = .returned (.int .i64 4) ∧ Below w.heap.size w w' := by
  have SO : Hid (∀ w, Calls Try.prog 17 #[.pointer none] w fun e w' => e = .returned (.bool false) ∧ w' = w) := on_nil
  have t0 : (0 : Nat) = 0 := rfl
  go_enter Try.func29, Try.ntmps29
  go_wp2_with (first
    | (go_at_call 17; refine (SO.out _).mono ?_; rintro e w' ⟨rfl, hw⟩; obtain rfl := hw.symm)
    | (have q0 := t0; refine box_lawF _ rfl (.tmp 1) 43 rfl .i64 p rfl ?_; intro w1 X1 B1 l1; have BB : Hid (Below w.heap.size w w1) := B1; clear X1 B1 t0))
  go_ret
  exact ⟨rfl, BB.out⟩
theorem read_nil (p : List Int) (w : World) : Calls Try.prog 22 #[.pointer none, .agg (ints .i64 p)] w fun e w' => e = .returned (.tuple #[.slice none 0 0, .int .i64 4]) ∧ Below w.heap.size w w' := by
  have SO : Hid (∀ w, Calls Try.prog 17 #[.pointer none] w fun e w' => e = .returned (.bool false) ∧ w' = w) := on_nil
  have t0 : (0 : Nat) = 0 := rfl
  go_enter Try.func22, Try.ntmps22
  go_wp2_with (first
    | (go_at_call 17; refine (SO.out _).mono ?_; rintro e w' ⟨rfl, hw⟩; obtain rfl := hw.symm)
    | (have q0 := t0; refine box_lawF _ rfl (.tmp 1) 43 rfl .i64 p rfl ?_; intro w1 X1 B1 l1; have BB : Hid (Below w.heap.size w w1) := B1; clear X1 B1 t0))
  go_ret2
  exact ⟨rfl, BB.out⟩
theorem poke_nil (p : List Int) (a x : Int) (w : World) : Calls Try.prog 32 #[.pointer none, .agg (ints .i64 p), .int .i64 a, .int .u8 x] w fun e w' => e = .returned (.int .i64 4) ∧ Below w.heap.size w w' := by
  have t0 : (0 : Nat) = 0 := rfl
  go_enter Try.func32, Try.ntmps32
  go_wp2_with (have q0 := t0; refine box_lawF _ rfl (.tmp 1) 43 rfl .i64 p rfl ?_; intro w1 X1 B1 l1; have BB : Hid (Below w.heap.size w w1) := B1; clear X1 B1 t0)
  go_ret
  exact ⟨rfl, BB.out⟩
theorem trace_nil (w : World) : Calls Try.prog 26 #[.pointer none] w fun e w' => e = .returned (.slice none 0 0) ∧ w' = w := by
  go_enter Try.func26, Try.ntmps26
  go_wp2
  go_ret
  exact ⟨rfl, rfl⟩
end Go.Proofs.Ytnklbmeadjgehaa.na
