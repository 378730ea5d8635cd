/- What ledger's foremost and count answer. No claim of its own. -/
import Derived.Test.YtnmofigidlmcaaaERead
namespace Go.Proofs.Ytnmofigidlmcaaa.le
open Go.RowKit Go.Proofs.Ytnmofigidlmcaaa.he
set_option maxRecDepth 20000

/-- a function that was handed over tells P of each of n blocks -/
def Mt (n : Nat) (f : Nat → Bk) (K : FuncId) (p : Array Value) (P : Nat → Bool) (w : World) : Prop := ∀ w', Below w.heap.size w w' → ∀ i, i < n → Calls Try.prog K (#[.int .i64 i, .agg (f i).cs.toArray] ++ p) w' fun e w'' => e = .returned (.bool (P i)) ∧ Below w'.heap.size w' w''
/-- one tells A of two -/
def Ahd (n : Nat) (f : Nat → Bk) (K : FuncId) (p : Array Value) (A : Nat → Nat → Bool) (w : World) : Prop := ∀ w', Below w.heap.size w w' → ∀ i j, i < n → j < n → Calls Try.prog K (#[.agg (f i).cs.toArray, .agg (f j).cs.toArray] ++ p) w' fun e w'' => e = .returned (.bool (A i j)) ∧ Below w'.heap.size w' w''
/-- one tells P of each block -/
def Mc (n : Nat) (f : Nat → Bk) (K : FuncId) (p : Array Value) (P : Nat → Bool) (w : World) : Prop := ∀ w', Below w.heap.size w w' → ∀ i, i < n → Calls Try.prog K (#[.agg (f i).cs.toArray] ++ p) w' fun e w'' => e = .returned (.bool (P i)) ∧ Below w'.heap.size w' w''

set_option maxHeartbeats 4000000 in
theorem fore_any (v : Value) (n : Nat) (f : Nat → Bk) (w : World) (h : Lq w v n f) (hn : n ≤ 64) (K1 K2 : FuncId) (p1 p2 : Array Value) (P : Nat → Bool) (A : Nat → Nat → Bool) (h1 : ∀ (q : Array Value) (w : World), (callFunc K1 q).run Try.prog w = .ok (.enter K1 q) w) (h2 : ∀ (q : Array Value) (w : World), (callFunc K2 q).run Try.prog w = .ok (.enter K2 q) w)
    (hm : Mt n f K1 p1 P w) (ha : Ahd n f K2 p2 A w) : Calls Try.prog 40 #[v, .func (.func K1) #[] p1, .func (.func K2) #[] p2] w fun e w' => e = .returned (.int .i64 (oi (fm P A n))) ∧ Below w.heap.size w w' := by
  have S : Hid (Calls Try.prog 9 #[v] w fun e w' => e = .returned (.int .i64 n) ∧ w' = w) := len_any v n f w h
  have HL : Hid (Lq w v n f) := h
  have HM : Hid (Mt n f K1 p1 P w) := hm
  have HA : Hid (Ahd n f K2 p2 A w) := ha
  have H1 : Hid (∀ (q : Array Value) (w : World), (callFunc K1 q).run Try.prog w = .ok (.enter K1 q) w) := h1
  have H2 : Hid (∀ (q : Array Value) (w : World), (callFunc K2 q).run Try.prog w = .ok (.enter K2 q) w) := h2
  clear h hm ha h1 h2
  go_enter Try.func40, Try.ntmps40
  go_wp2_with (go_at_call 9; refine S.out.mono ?_; rintro e w' ⟨rfl, hw⟩; obtain rfl := hw.symm)
  go_loopw [7, 12] (fun r i wr => ∃ k : Nat, k ≤ n ∧ i = .int .i64 k ∧ r = .int .i64 (oi (fm P A k)) ∧ Below w.heap.size w wr) (fun _ i _ => n - (intOf i).toNat)
  case atStart => exact ⟨0, Nat.zero_le _, rfl, rfl, Below.refl _ _⟩
  case round =>
    clear S
    obtain ⟨k, hk, rfl, hr, hb⟩ := hrel
    have HB : Hid (Below w.heap.size w wr) := hb
    have k0 : (0 : Int) ≤ (k : Int) := by omega
    clear hb
    by_cases hlt : k < n
    · have k1 : (k : Int) < (n : Int) := by omega
      obtain ⟨c, d, rfl, hl⟩ : ∃ c d, v = pt c ∧ Led w c d n f := by
        rcases HL.out with ⟨-, e⟩ | h
        · omega
        · exact h
      have HD : Hid (Led wr c d n f) := hl.below HB.out
      clear hl
      have HP : Hid (fm P A (k + 1) = if P k && ah A k (fm P A k) then some k else fm P A k) := rfl
      have HF : Hid (∀ j, fm P A k = some j → j < k) := fun j h => fm_lt h
      obtain ⟨m, hm⟩ : ∃ m, m = fm P A (k + 1) := ⟨_, rfl⟩
      obtain ⟨z, hz⟩ : ∃ z, z = fm P A k := ⟨_, rfl⟩
      obtain ⟨y, hy⟩ : ∃ y, y = P k := ⟨_, rfl⟩
      have HZ : Hid (m = fm P A (k + 1)) := hm
      rw [← hm, ← hz, ← hy] at HP
      rw [← hz] at HF hr
      have M1' : Hid (∀ w', Below wr.heap.size wr w' → Calls Try.prog K1 (#[.int .i64 k, .agg (f k).cs.toArray] ++ p1) w' fun e w'' => e = .returned (.bool y) ∧ Below w'.heap.size w' w'') := fun w' hw' => by rw [hy]; exact HM.out w' (HB.out.trans (hw'.mono HB.out.size)) k hlt
      have M2' : Hid (∀ w', Below wr.heap.size wr w' → ∀ j, j < n → Calls Try.prog K2 (#[.agg (f k).cs.toArray, .agg (f j).cs.toArray] ++ p2) w' fun e w'' => e = .returned (.bool (A k j)) ∧ Below w'.heap.size w' w'') := fun w' hw' j hj => HA.out w' (HB.out.trans (hw'.mono HB.out.size)) k j hlt hj
      clear hm hz hy
      have c0 := HD.out.cell
      have nn := nine (HD.out.2.1 k hlt).1
      have t0 : (0 : Nat) = 0 := rfl
      cases y with
      | false =>
        obtain ⟨r, hre⟩ : ∃ r, r = oi z := ⟨_, rfl⟩
        rw [← hre] at hr
        subst hr
        have HR : Hid (r = oi m) := by rw [hre, HP.out]; rfl
        clear hre
        go_wp2_with (first
          | (have qq := t2; (with_reducible refine at_store ?_); refine store_lawC _ (f k).cs wr.heap.size 0 rfl rfl V5.out.2 size_lblk (f k).one ?_; intro w6 E6 R6 T6 B6_; have V6 : Hid (w6.rangeAt wr.heap.size 0 (f k).cs) := R6; have B6 : Hid (Below wr.heap.size wr w6) := B5.out.trans B6_; clear E6 R6 T6 B6_ t2)
          | (have qq := t0; (with_reducible refine at_alloc ?_); refine new_lawC _ b0.cs zero_lblk ?_; intro w5 X5 Y5 l5; have V5 : Hid (Vr w5 wr.heap.size b0.cs) := X5; have B5 : Hid (Below wr.heap.size wr w5) := Y5; clear X5 Y5 t0; have t2 : (0 : Nat) = 0 := rfl))
        have c6 : Hid (w6.cell? ⟨c, 0, none⟩ = some (.slice (some ⟨d, 0, none⟩) n n)) := (HD.out.below B6.out).cell
        have CC : Hid (∀ w', Below w6.heap.size w6 w' → w'.cell? ⟨c, 0, none⟩ = some (.slice (some ⟨d, 0, none⟩) n n) ∧ w'.rangeAt wr.heap.size 0 (f k).cs) := fun w' hw' => ⟨by rw [hw'.cell (World.block_lt_of_cell? _ _ c6.out)]; exact c6.out, range_heap V6.out (hw'.block _ (range_lt V6.out (Nat.succ_pos _)))⟩
        have M1 : Hid (∀ w', Below w6.heap.size w6 w' → Calls Try.prog K1 (#[.int .i64 k, .agg (f k).cs.toArray] ++ p1) w' fun e w'' => e = .returned (.bool false) ∧ Below w6.heap.size w6 w'') := fun w' hw' => (M1'.out w' (B6.out.trans (hw'.mono B6.out.size))).mono fun _ _ h' => ⟨h'.1, hw'.trans (h'.2.mono hw'.size)⟩
        refine region_quietW (C := fun w' => Below w6.heap.size w6 w') (by kernel_rfl) (by kernel_rfl) (Below.refl _ _).drew ?_
        refine wq_step (fun K hK => ?_)
        refine q_val (by rfl) (some 22) rfl (.func (.func K1) #[] p1) (fun w' _ => by rfl) (hK _ ?_)
        simp only [Act.put, List.setIfInBounds_toArray, List.set_cons_zero, List.set_cons_succ]
        clear hK K
        refine wq_step (fun K hK => ?_)
        refine q_val (by rfl) (some 23) rfl (.int .i64 k) (fun w' _ => by rfl) (hK _ ?_)
        simp only [Act.put, List.setIfInBounds_toArray, List.set_cons_zero, List.set_cons_succ]
        clear hK K
        refine wq_step (fun K hK => ?_)
        refine q_loadS (by rfl) (some 24) rfl (.tmp 9) 39 rfl (pt wr.heap.size) (.agg (f k).cs.toArray) rfl (fun w' hw' => load_cells rowy_lblk (CC.out w' hw').2) (hK _ ?_)
        simp only [Act.put, List.setIfInBounds_toArray, List.set_cons_zero, List.set_cons_succ]
        clear hK K
        refine wq_step (fun K hK => ?_)
        refine q_callF (by rfl) (some 25) rfl 22 #[.tmp 23, .tmp 24] #[3, 39] rfl K1 p1 rfl H1 #[.int .i64 k, .agg (f k).cs.toArray] (by simp only [List.map_toArray, List.map_cons, List.map_nil]; rfl) (.bool false) (fun w' hw' => M1.out w' hw') (hK _ ?_)
        simp only [Act.put, List.setIfInBounds_toArray, List.set_cons_zero, List.set_cons_succ]
        clear hK K
        refine wq_step (fun K hK => ?_)
        refine q_val (by rfl) (some 26) rfl (.bool false) (fun w' _ => by rfl) (hK _ ?_)
        simp only [Act.put, List.setIfInBounds_toArray, List.set_cons_zero, List.set_cons_succ]
        clear hK K
        refine wq_step (fun K hK => ?_)
        refine q_skip (by rfl) (some 27) rfl (hK _ ?_)
        simp only [Act.put, List.setIfInBounds_toArray, List.set_cons_zero, List.set_cons_succ]
        clear hK K
        refine wq_step (fun K hK => ?_)
        refine q_skip (by rfl) (some 28) rfl (hK _ ?_)
        simp only [Act.put, List.setIfInBounds_toArray, List.set_cons_zero, List.set_cons_succ]
        clear hK K
        refine wq_step (fun K hK => ?_)
        refine q_skip (by rfl) (some 29) rfl (hK _ ?_)
        simp only [Act.put, List.setIfInBounds_toArray, List.set_cons_zero, List.set_cons_succ]
        clear hK K
        refine wq_step (fun K hK => ?_)
        refine q_skip (by rfl) (some 30) rfl (hK _ ?_)
        simp only [Act.put, List.setIfInBounds_toArray, List.set_cons_zero, List.set_cons_succ]
        clear hK K
        refine wq_step (fun K hK => ?_)
        refine q_skip (by rfl) (some 31) rfl (hK _ ?_)
        simp only [Act.put, List.setIfInBounds_toArray, List.set_cons_zero, List.set_cons_succ]
        clear hK K
        refine wq_step (fun K hK => ?_)
        refine q_skip (by rfl) (some 32) rfl (hK _ ?_)
        simp only [Act.put, List.setIfInBounds_toArray, List.set_cons_zero, List.set_cons_succ]
        clear hK K
        refine wq_step (fun K hK => ?_)
        refine q_skip (by rfl) (some 33) rfl (hK _ ?_)
        simp only [Act.put, List.setIfInBounds_toArray, List.set_cons_zero, List.set_cons_succ]
        clear hK K
        refine wq_step (fun K hK => ?_)
        refine q_skip (by rfl) (some 34) rfl (hK _ ?_)
        simp only [Act.put, List.setIfInBounds_toArray, List.set_cons_zero, List.set_cons_succ]
        clear hK K
        refine wq_step (fun K hK => ?_)
        refine q_skip (by rfl) (some 35) rfl (hK _ ?_)
        simp only [Act.put, List.setIfInBounds_toArray, List.set_cons_zero, List.set_cons_succ]
        clear hK K
        refine wq_step (fun K hK => ?_)
        refine q_skip (by rfl) (some 36) rfl (hK _ ?_)
        simp only [Act.put, List.setIfInBounds_toArray, List.set_cons_zero, List.set_cons_succ]
        clear hK K
        refine wq_step (fun K hK => ?_)
        refine q_skip (by rfl) (some 37) rfl (hK _ ?_)
        simp only [Act.put, List.setIfInBounds_toArray, List.set_cons_zero, List.set_cons_succ]
        clear hK K
        refine wq_step (fun K hK => ?_)
        refine q_skip (by rfl) (some 38) rfl (hK _ ?_)
        simp only [Act.put, List.setIfInBounds_toArray, List.set_cons_zero, List.set_cons_succ]
        clear hK K
        refine wq_step (fun K hK => ?_)
        refine q_skip (by rfl) (some 39) rfl (hK _ ?_)
        simp only [Act.put, List.setIfInBounds_toArray, List.set_cons_zero, List.set_cons_succ]
        clear hK K
        refine wq_step (fun K hK => ?_)
        refine q_skip (by rfl) (some 40) rfl (hK _ ?_)
        simp only [Act.put, List.setIfInBounds_toArray, List.set_cons_zero, List.set_cons_succ]
        clear hK K
        refine wq_step (fun K hK => ?_)
        refine q_val (by rfl) (some 41) rfl (.bool false) (fun w' _ => by rfl) (hK _ ?_)
        simp only [Act.put, List.setIfInBounds_toArray, List.set_cons_zero, List.set_cons_succ]
        clear hK K
        refine wq_nil ?_
        intro w7 B7
        go_wp2
        go_roundw
        case rel => exact ⟨k + 1, by omega, by go_num, by rw [HR.out, HZ.out], HB.out.trans ((B6.out.trans (B7.mono B6.out.size)).mono HB.out.size)⟩
        case measure => simp [intOf]; omega
      | true =>
        cases z with
        | none =>
          subst hr
          have HR : Hid (m = some k) := by rw [HP.out]; rfl
          go_wp2_with (first
            | (have qq := t2; (with_reducible refine at_store ?_); refine store_lawC _ (f k).cs wr.heap.size 0 rfl rfl V5.out.2 size_lblk (f k).one ?_; intro w6 E6 R6 T6 B6_; have V6 : Hid (w6.rangeAt wr.heap.size 0 (f k).cs) := R6; have B6 : Hid (Below wr.heap.size wr w6) := B5.out.trans B6_; clear E6 R6 T6 B6_ t2)
            | (have qq := t0; (with_reducible refine at_alloc ?_); refine new_lawC _ b0.cs zero_lblk ?_; intro w5 X5 Y5 l5; have V5 : Hid (Vr w5 wr.heap.size b0.cs) := X5; have B5 : Hid (Below wr.heap.size wr w5) := Y5; clear X5 Y5 t0; have t2 : (0 : Nat) = 0 := rfl))
          have c6 : Hid (w6.cell? ⟨c, 0, none⟩ = some (.slice (some ⟨d, 0, none⟩) n n)) := (HD.out.below B6.out).cell
          have CC : Hid (∀ w', Below w6.heap.size w6 w' → w'.cell? ⟨c, 0, none⟩ = some (.slice (some ⟨d, 0, none⟩) n n) ∧ w'.rangeAt wr.heap.size 0 (f k).cs) := fun w' hw' => ⟨by rw [hw'.cell (World.block_lt_of_cell? _ _ c6.out)]; exact c6.out, range_heap V6.out (hw'.block _ (range_lt V6.out (Nat.succ_pos _)))⟩
          have M1 : Hid (∀ w', Below w6.heap.size w6 w' → Calls Try.prog K1 (#[.int .i64 k, .agg (f k).cs.toArray] ++ p1) w' fun e w'' => e = .returned (.bool true) ∧ Below w6.heap.size w6 w'') := fun w' hw' => (M1'.out w' (B6.out.trans (hw'.mono B6.out.size))).mono fun _ _ h' => ⟨h'.1, hw'.trans (h'.2.mono hw'.size)⟩
          refine region_quietW (C := fun w' => Below w6.heap.size w6 w') (by kernel_rfl) (by kernel_rfl) (Below.refl _ _).drew ?_
          refine wq_step (fun K hK => ?_)
          refine q_val (by rfl) (some 22) rfl (.func (.func K1) #[] p1) (fun w' _ => by rfl) (hK _ ?_)
          simp only [Act.put, List.setIfInBounds_toArray, List.set_cons_zero, List.set_cons_succ]
          clear hK K
          refine wq_step (fun K hK => ?_)
          refine q_val (by rfl) (some 23) rfl (.int .i64 k) (fun w' _ => by rfl) (hK _ ?_)
          simp only [Act.put, List.setIfInBounds_toArray, List.set_cons_zero, List.set_cons_succ]
          clear hK K
          refine wq_step (fun K hK => ?_)
          refine q_loadS (by rfl) (some 24) rfl (.tmp 9) 39 rfl (pt wr.heap.size) (.agg (f k).cs.toArray) rfl (fun w' hw' => load_cells rowy_lblk (CC.out w' hw').2) (hK _ ?_)
          simp only [Act.put, List.setIfInBounds_toArray, List.set_cons_zero, List.set_cons_succ]
          clear hK K
          refine wq_step (fun K hK => ?_)
          refine q_callF (by rfl) (some 25) rfl 22 #[.tmp 23, .tmp 24] #[3, 39] rfl K1 p1 rfl H1 #[.int .i64 k, .agg (f k).cs.toArray] (by simp only [List.map_toArray, List.map_cons, List.map_nil]; rfl) (.bool true) (fun w' hw' => M1.out w' hw') (hK _ ?_)
          simp only [Act.put, List.setIfInBounds_toArray, List.set_cons_zero, List.set_cons_succ]
          clear hK K
          refine wq_step (fun K hK => ?_)
          refine q_val (by rfl) (some 26) rfl (.bool true) (fun w' _ => by rfl) (hK _ ?_)
          simp only [Act.put, List.setIfInBounds_toArray, List.set_cons_zero, List.set_cons_succ]
          clear hK K
          refine wq_step (fun K hK => ?_)
          refine q_val (by rfl) (some 27) rfl (.int .i64 (-1)) (fun w' _ => by rfl) (hK _ ?_)
          simp only [Act.put, List.setIfInBounds_toArray, List.set_cons_zero, List.set_cons_succ]
          clear hK K
          refine wq_step (fun K hK => ?_)
          refine q_val (by rfl) (some 28) rfl (.bool true) (fun w' _ => by go_simp) (hK _ ?_)
          simp only [Act.put, List.setIfInBounds_toArray, List.set_cons_zero, List.set_cons_succ]
          clear hK K
          refine wq_step (fun K hK => ?_)
          refine q_val (by rfl) (some 29) rfl (.bool true) (fun w' _ => by rfl) (hK _ ?_)
          simp only [Act.put, List.setIfInBounds_toArray, List.set_cons_zero, List.set_cons_succ]
          clear hK K
          refine wq_step (fun K hK => ?_)
          refine q_skip (by rfl) (some 30) rfl (hK _ ?_)
          simp only [Act.put, List.setIfInBounds_toArray, List.set_cons_zero, List.set_cons_succ]
          clear hK K
          refine wq_step (fun K hK => ?_)
          refine q_skip (by rfl) (some 31) rfl (hK _ ?_)
          simp only [Act.put, List.setIfInBounds_toArray, List.set_cons_zero, List.set_cons_succ]
          clear hK K
          refine wq_step (fun K hK => ?_)
          refine q_skip (by rfl) (some 32) rfl (hK _ ?_)
          simp only [Act.put, List.setIfInBounds_toArray, List.set_cons_zero, List.set_cons_succ]
          clear hK K
          refine wq_step (fun K hK => ?_)
          refine q_skip (by rfl) (some 33) rfl (hK _ ?_)
          simp only [Act.put, List.setIfInBounds_toArray, List.set_cons_zero, List.set_cons_succ]
          clear hK K
          refine wq_step (fun K hK => ?_)
          refine q_skip (by rfl) (some 34) rfl (hK _ ?_)
          simp only [Act.put, List.setIfInBounds_toArray, List.set_cons_zero, List.set_cons_succ]
          clear hK K
          refine wq_step (fun K hK => ?_)
          refine q_skip (by rfl) (some 35) rfl (hK _ ?_)
          simp only [Act.put, List.setIfInBounds_toArray, List.set_cons_zero, List.set_cons_succ]
          clear hK K
          refine wq_step (fun K hK => ?_)
          refine q_skip (by rfl) (some 36) rfl (hK _ ?_)
          simp only [Act.put, List.setIfInBounds_toArray, List.set_cons_zero, List.set_cons_succ]
          clear hK K
          refine wq_step (fun K hK => ?_)
          refine q_skip (by rfl) (some 37) rfl (hK _ ?_)
          simp only [Act.put, List.setIfInBounds_toArray, List.set_cons_zero, List.set_cons_succ]
          clear hK K
          refine wq_step (fun K hK => ?_)
          refine q_skip (by rfl) (some 38) rfl (hK _ ?_)
          simp only [Act.put, List.setIfInBounds_toArray, List.set_cons_zero, List.set_cons_succ]
          clear hK K
          refine wq_step (fun K hK => ?_)
          refine q_skip (by rfl) (some 39) rfl (hK _ ?_)
          simp only [Act.put, List.setIfInBounds_toArray, List.set_cons_zero, List.set_cons_succ]
          clear hK K
          refine wq_step (fun K hK => ?_)
          refine q_val (by rfl) (some 40) rfl (.bool true) (fun w' _ => by rfl) (hK _ ?_)
          simp only [Act.put, List.setIfInBounds_toArray, List.set_cons_zero, List.set_cons_succ]
          clear hK K
          refine wq_step (fun K hK => ?_)
          refine q_val (by rfl) (some 41) rfl (.bool true) (fun w' _ => by rfl) (hK _ ?_)
          simp only [Act.put, List.setIfInBounds_toArray, List.set_cons_zero, List.set_cons_succ]
          clear hK K
          refine wq_nil ?_
          intro w7 B7
          go_wp2
          go_roundw
          case rel => exact ⟨k + 1, by omega, by go_num, by rw [← HZ.out, HR.out]; rfl, HB.out.trans ((B6.out.trans (B7.mono B6.out.size)).mono HB.out.size)⟩
          case measure => simp [intOf]; omega
        | some j =>
          have hjk : j < k := HF.out j rfl
          have hjn : j < n := by omega
          obtain ⟨q, hq⟩ : ∃ q, q = A k j := ⟨_, rfl⟩
          have HR : Hid (m = if q = true then some k else some j) := by rw [HP.out, hq]; rfl
          have hr' : _ = Value.int .i64 (j : Int) := hr
          clear hr
          subst hr'
          have j0 : (0 : Int) ≤ (j : Int) := by omega
          have j1 : ¬ ((j : Int) = -1) := by omega
          have Rj : Hid (wr.rangeAt d (j * 9) (f j).cs) := (HD.out.2.1 j hjn).1
          have M2j : Hid (∀ w', Below wr.heap.size wr w' → Calls Try.prog K2 (#[.agg (f k).cs.toArray, .agg (f j).cs.toArray] ++ p2) w' fun e w'' => e = .returned (.bool q) ∧ Below w'.heap.size w' w'') := fun w' hw' => by rw [hq]; exact M2'.out w' hw' j hjn
          clear hq
          go_wp2_with (first
            | (have qq := t2; (with_reducible refine at_store ?_); refine store_lawC _ (f k).cs wr.heap.size 0 rfl rfl V5.out.2 size_lblk (f k).one ?_; intro w6 E6 R6 T6 B6_; have V6 : Hid (w6.rangeAt wr.heap.size 0 (f k).cs) := R6; have B6 : Hid (Below wr.heap.size wr w6) := B5.out.trans B6_; clear E6 R6 T6 B6_ t2)
            | (have qq := t0; (with_reducible refine at_alloc ?_); refine new_lawC _ b0.cs zero_lblk ?_; intro w5 X5 Y5 l5; have V5 : Hid (Vr w5 wr.heap.size b0.cs) := X5; have B5 : Hid (Below wr.heap.size wr w5) := Y5; clear X5 Y5 t0; have t2 : (0 : Nat) = 0 := rfl))
          have c6 : Hid (w6.cell? ⟨c, 0, none⟩ = some (.slice (some ⟨d, 0, none⟩) n n)) := (HD.out.below B6.out).cell
          have CC : Hid (∀ w', Below w6.heap.size w6 w' → w'.cell? ⟨c, 0, none⟩ = some (.slice (some ⟨d, 0, none⟩) n n) ∧ w'.rangeAt wr.heap.size 0 (f k).cs ∧ w'.rangeAt d (j * 9) (f j).cs) := fun w' hw' => ⟨by rw [hw'.cell (World.block_lt_of_cell? _ _ c6.out)]; exact c6.out, range_heap V6.out (hw'.block _ (range_lt V6.out (Nat.succ_pos _))), range_heap Rj.out ((B6.out.trans (hw'.mono B6.out.size)).block d (range_lt Rj.out (Nat.succ_pos _)))⟩
          have M1 : Hid (∀ w', Below w6.heap.size w6 w' → Calls Try.prog K1 (#[.int .i64 k, .agg (f k).cs.toArray] ++ p1) w' fun e w'' => e = .returned (.bool true) ∧ Below w6.heap.size w6 w'') := fun w' hw' => (M1'.out w' (B6.out.trans (hw'.mono B6.out.size))).mono fun _ _ h' => ⟨h'.1, hw'.trans (h'.2.mono hw'.size)⟩
          have M2 : Hid (∀ w', Below w6.heap.size w6 w' → Calls Try.prog K2 (#[.agg (f k).cs.toArray, .agg (f j).cs.toArray] ++ p2) w' fun e w'' => e = .returned (.bool q) ∧ Below w6.heap.size w6 w'') := fun w' hw' => (M2j.out w' (B6.out.trans (hw'.mono B6.out.size))).mono fun _ _ h' => ⟨h'.1, hw'.trans (h'.2.mono hw'.size)⟩
          refine region_quietW (C := fun w' => Below w6.heap.size w6 w') (by kernel_rfl) (by kernel_rfl) (Below.refl _ _).drew ?_
          refine wq_step (fun K hK => ?_)
          refine q_val (by rfl) (some 22) rfl (.func (.func K1) #[] p1) (fun w' _ => by rfl) (hK _ ?_)
          simp only [Act.put, List.setIfInBounds_toArray, List.set_cons_zero, List.set_cons_succ]
          clear hK K
          refine wq_step (fun K hK => ?_)
          refine q_val (by rfl) (some 23) rfl (.int .i64 k) (fun w' _ => by rfl) (hK _ ?_)
          simp only [Act.put, List.setIfInBounds_toArray, List.set_cons_zero, List.set_cons_succ]
          clear hK K
          refine wq_step (fun K hK => ?_)
          refine q_loadS (by rfl) (some 24) rfl (.tmp 9) 39 rfl (pt wr.heap.size) (.agg (f k).cs.toArray) rfl (fun w' hw' => load_cells rowy_lblk (CC.out w' hw').2.1) (hK _ ?_)
          simp only [Act.put, List.setIfInBounds_toArray, List.set_cons_zero, List.set_cons_succ]
          clear hK K
          refine wq_step (fun K hK => ?_)
          refine q_callF (by rfl) (some 25) rfl 22 #[.tmp 23, .tmp 24] #[3, 39] rfl K1 p1 rfl H1 #[.int .i64 k, .agg (f k).cs.toArray] (by simp only [List.map_toArray, List.map_cons, List.map_nil]; rfl) (.bool true) (fun w' hw' => M1.out w' hw') (hK _ ?_)
          simp only [Act.put, List.setIfInBounds_toArray, List.set_cons_zero, List.set_cons_succ]
          clear hK K
          refine wq_step (fun K hK => ?_)
          refine q_val (by rfl) (some 26) rfl (.bool true) (fun w' _ => by rfl) (hK _ ?_)
          simp only [Act.put, List.setIfInBounds_toArray, List.set_cons_zero, List.set_cons_succ]
          clear hK K
          refine wq_step (fun K hK => ?_)
          refine q_val (by rfl) (some 27) rfl (.int .i64 j) (fun w' _ => by rfl) (hK _ ?_)
          simp only [Act.put, List.setIfInBounds_toArray, List.set_cons_zero, List.set_cons_succ]
          clear hK K
          refine wq_step (fun K hK => ?_)
          refine q_val (by rfl) (some 28) rfl (.bool false) (fun w' _ => by go_simp) (hK _ ?_)
          simp only [Act.put, List.setIfInBounds_toArray, List.set_cons_zero, List.set_cons_succ]
          clear hK K
          refine wq_step (fun K hK => ?_)
          refine q_val (by rfl) (some 29) rfl (.bool false) (fun w' _ => by rfl) (hK _ ?_)
          simp only [Act.put, List.setIfInBounds_toArray, List.set_cons_zero, List.set_cons_succ]
          clear hK K
          refine wq_step (fun K hK => ?_)
          refine q_val (by rfl) (some 30) rfl (.func (.func K2) #[] p2) (fun w' _ => by rfl) (hK _ ?_)
          simp only [Act.put, List.setIfInBounds_toArray, List.set_cons_zero, List.set_cons_succ]
          clear hK K
          refine wq_step (fun K hK => ?_)
          refine q_loadS (by rfl) (some 31) rfl (.tmp 9) 39 rfl (pt wr.heap.size) (.agg (f k).cs.toArray) rfl (fun w' hw' => load_cells rowy_lblk (CC.out w' hw').2.1) (hK _ ?_)
          simp only [Act.put, List.setIfInBounds_toArray, List.set_cons_zero, List.set_cons_succ]
          clear hK K
          refine wq_step (fun K hK => ?_)
          refine q_val (by rfl) (some 32) rfl (pt c) (fun w' _ => by rfl) (hK _ ?_)
          simp only [Act.put, List.setIfInBounds_toArray, List.set_cons_zero, List.set_cons_succ]
          clear hK K
          refine wq_step (fun K hK => ?_)
          refine q_val (by rfl) (some 33) rfl (pt c) (fun w' _ => by go_simp) (hK _ ?_)
          simp only [Act.put, List.setIfInBounds_toArray, List.set_cons_zero, List.set_cons_succ]
          clear hK K
          refine wq_step (fun K hK => ?_)
          refine q_val (by rfl) (some 34) rfl (pt c) (fun w' _ => by go_simp) (hK _ ?_)
          simp only [Act.put, List.setIfInBounds_toArray, List.set_cons_zero, List.set_cons_succ]
          clear hK K
          refine wq_step (fun K hK => ?_)
          refine q_loadS (by rfl) (some 35) rfl (.tmp 34) 58 rfl (pt c) (.slice (some ⟨d, 0, none⟩) n n) rfl (fun w' hw' => run_ldS w' _ _ _ _ _ (CC.out w' hw').1) (hK _ ?_)
          simp only [Act.put, List.setIfInBounds_toArray, List.set_cons_zero, List.set_cons_succ]
          clear hK K
          refine wq_step (fun K hK => ?_)
          refine q_val (by rfl) (some 36) rfl (.int .i64 j) (fun w' _ => by rfl) (hK _ ?_)
          simp only [Act.put, List.setIfInBounds_toArray, List.set_cons_zero, List.set_cons_succ]
          clear hK K
          refine wq_step (fun K hK => ?_)
          refine q_idxS (by rfl) (some 37) rfl (.tmp 35) (.tmp 36) rfl d n n j rfl rfl (hjn) (hK _ ?_)
          simp only [Act.put, List.setIfInBounds_toArray, List.set_cons_zero, List.set_cons_succ]
          clear hK K
          refine wq_step (fun K hK => ?_)
          refine q_loadS (by rfl) (some 38) rfl (.tmp 37) 39 rfl (.pointer (some ⟨d, j * 9, none⟩)) (.agg (f j).cs.toArray) rfl (fun w' hw' => load_cells rowy_lblk (CC.out w' hw').2.2) (hK _ ?_)
          simp only [Act.put, List.setIfInBounds_toArray, List.set_cons_zero, List.set_cons_succ]
          clear hK K
          refine wq_step (fun K hK => ?_)
          refine q_callF (by rfl) (some 39) rfl 30 #[.tmp 31, .tmp 38] #[39, 39] rfl K2 p2 rfl H2 #[.agg (f k).cs.toArray, .agg (f j).cs.toArray] (by simp only [List.map_toArray, List.map_cons, List.map_nil]; rfl) (.bool q) (fun w' hw' => M2.out w' hw') (hK _ ?_)
          simp only [Act.put, List.setIfInBounds_toArray, List.set_cons_zero, List.set_cons_succ]
          clear hK K
          refine wq_step (fun K hK => ?_)
          refine q_val (by rfl) (some 40) rfl (.bool q) (fun w' _ => by rfl) (hK _ ?_)
          simp only [Act.put, List.setIfInBounds_toArray, List.set_cons_zero, List.set_cons_succ]
          clear hK K
          refine wq_step (fun K hK => ?_)
          refine q_val (by rfl) (some 41) rfl (.bool q) (fun w' _ => by rfl) (hK _ ?_)
          simp only [Act.put, List.setIfInBounds_toArray, List.set_cons_zero, List.set_cons_succ]
          clear hK K
          refine wq_nil ?_
          intro w7 B7
          cases q with
          | true =>
            go_wp2
            go_roundw
            case rel => exact ⟨k + 1, by omega, by go_num, by rw [← HZ.out, HR.out]; rfl, HB.out.trans ((B6.out.trans (B7.mono B6.out.size)).mono HB.out.size)⟩
            case measure => simp [intOf]; omega
          | false =>
            go_wp2
            go_roundw
            case rel => exact ⟨k + 1, by omega, by go_num, by rw [← HZ.out, HR.out]; rfl, HB.out.trans ((B6.out.trans (B7.mono B6.out.size)).mono HB.out.size)⟩
            case measure => simp [intOf]; omega
    · have e : k = n := by omega
      subst e
      subst hr
      go_wp2
      go_ret
      exact ⟨rfl, HB.out⟩

set_option maxHeartbeats 2000000 in
theorem count_any (v : Value) (n : Nat) (f : Nat → Bk) (w : World) (h : Lq w v n f) (hn : n ≤ 64) (K1 : FuncId) (p1 : Array Value) (P : Nat → Bool) (h1 : ∀ (q : Array Value) (w : World), (callFunc K1 q).run Try.prog w = .ok (.enter K1 q) w)
    (hm : Mc n f K1 p1 P w) : Calls Try.prog 48 #[v, .func (.func K1) #[] p1] w fun e w' => e = .returned (.int .i64 (cn P n)) ∧ Below w.heap.size w w' := by
  have S : Hid (Calls Try.prog 9 #[v] w fun e w' => e = .returned (.int .i64 n) ∧ w' = w) := len_any v n f w h
  have HL : Hid (Lq w v n f) := h
  have HM : Hid (Mc n f K1 p1 P w) := hm
  have HC : Hid (∀ k, cn P k ≤ k) := cn_le P
  clear h hm
  go_enter Try.func48, Try.ntmps48
  go_wp2_with (go_at_call 9; refine S.out.mono ?_; rintro e w' ⟨rfl, hw⟩; obtain rfl := hw.symm)
  go_loopw [5, 9] (fun r i wr => ∃ k m : Nat, k ≤ n ∧ i = .int .i64 k ∧ r = .int .i64 m ∧ Hid (m = cn P k) ∧ Below w.heap.size w wr) (fun _ i _ => n - (intOf i).toNat)
  case atStart => exact ⟨0, 0, Nat.zero_le _, rfl, rfl, rfl, Below.refl _ _⟩
  case round =>
    clear S
    obtain ⟨k, m, hk, rfl, rfl, HE, hb⟩ := hrel
    have HB : Hid (Below w.heap.size w wr) := hb
    have k0 : (0 : Int) ≤ (k : Int) := by omega
    have m0 : (0 : Int) ≤ (m : Int) := by omega
    have m1 : (m : Int) ≤ 64 := by have := HE.out; have := HC.out k; omega
    clear hb
    by_cases hlt : k < n
    · have k1 : (k : Int) < (n : Int) := by omega
      obtain ⟨c, d, rfl, hl⟩ : ∃ c d, v = pt c ∧ Led w c d n f := by
        rcases HL.out with ⟨-, e⟩ | h
        · omega
        · exact h
      have HD : Hid (Led wr c d n f) := hl.below HB.out
      clear hl
      obtain ⟨y, hy⟩ : ∃ y, y = P k := ⟨_, rfl⟩
      have HN : Hid (cn P (k + 1) = m + (if y = true then 1 else 0)) := by rw [hy, HE.out]; rfl
      have M : Hid (Calls Try.prog K1 (#[.agg (f k).cs.toArray] ++ p1) wr fun e w'' => e = .returned (.bool y) ∧ Below wr.heap.size wr w'') := by rw [hy]; exact HM.out wr HB.out k hlt
      clear hy
      have c0 := HD.out.cell
      have nn := nine (HD.out.2.1 k hlt).1
      have t0 : (0 : Nat) = 0 := rfl
      cases y with
      | false =>
        go_wp2_with (have qq := t0; refine M.out.mono ?_; rintro e w5 ⟨rfl, B5⟩; clear t0)
        go_roundw
        case rel => exact ⟨k + 1, m, by omega, by go_num, rfl, HN.out.symm, HB.out.trans (B5.mono HB.out.size)⟩
        case measure => simp [intOf]; omega
      | true =>
        go_wp2_with (have qq := t0; refine M.out.mono ?_; rintro e w5 ⟨rfl, B5⟩; clear t0)
        go_roundw
        case rel => exact ⟨k + 1, m + 1, by omega, by go_num, by go_num, HN.out.symm, HB.out.trans (B5.mono HB.out.size)⟩
        case measure => simp [intOf]; omega
    · have e : k = n := by omega
      subst e
      have HE' := HE.out
      subst HE'
      go_wp2
      go_ret
      exact ⟨rfl, HB.out⟩
end Go.Proofs.Ytnmofigidlmcaaa.le
