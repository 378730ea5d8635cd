/- What pagemap's spokenOf answers. No claim of its own. -/
import Derived.Test.YtedmmpognhpbdaaJStl
namespace Go.Proofs.Ytedmmpognhpbdaa.pm
open Go.RowKit Go.Proofs.Ytedmmpognhpbdaa.he
set_option maxRecDepth 20000

/-- a head's numbers are in range -/
def Hok (h : Hd) : Prop := 0 ≤ h.l ∧ h.l ≤ 4294967295
/-- it speaks of sectors that there are -/
def Rgt (s : Nat → Nat) (h : Hd) : Prop := lk h.k = true ∧ 1 ≤ h.c ∧ h.c ≤ szn s h.n ∧ h.l ≤ szn s h.n - h.c
theorem load_u32 {w : World} {b q : Nat} {x : Int} (h : w.cell? ⟨b, q, none⟩ = some (.int .u32 x)) : (Instr.loadAt 32 (pq b q)).run Try.prog w = .ok (.int .u32 x) w := by
  have : (loadVar 32 ⟨b, q, none⟩).run Try.prog w = .ok (.int .u32 x) w := by
    simp [loadVar, isAgg, run_underlying Try.underlying32, h]
  simp only [Instr.loadAt, Instr.sureAddr, Sem.run_bind, Sem.run_pure, Result.andThen_ok, this]
theorem size_sp (w : World) : (sizeOf 37).run Try.prog w = .ok 14 w := Try.sizeOf37 w
theorem exec_fromS {ev : Operand → Value} {o : Oper} (s x : Operand) (hop : o.op = Op.slice 47 s (some x) none none) (d n l : Nat) (hs : ev s = .slice (some ⟨d, 0, none⟩) n n) (hx : ev x = .int .u32 (l : Int)) (hl : l < n) (w : World) : (execOp ev o).run Try.prog w = .ok (.value (.slice (some ⟨d, l * 14, none⟩) (n - l) (n - l))) w := by
  have und : Try.prog.underlying 47 = some (.slice (Try.prog.elem 47)) := by kernel_rfl
  have hrun := run_slice_l (P := Try.prog) w 47 (some ⟨d, 0, none⟩) n n und .u32 (l : Int) (by omega) (by omega)
  rw [show Try.prog.elem 47 = 37 by kernel_rfl, size_sp] at hrun
  have e : sliced (some ⟨d, 0, none⟩) (Int.toNat (l : Int)) n n 14 = .slice (some ⟨d, l * 14, none⟩) (n - l) (n - l) := by
    unfold sliced
    rw [Int.toNat_natCast, if_neg (by omega)]
    simp [Addr.add]
    omega
  rw [Result.andThen_ok, e] at hrun
  simp [execOp, hop, hs, hx, run_sliceAt_slice w 47 _ _ _ _ und, hrun, Result.andThen]
theorem exec_toS {ev : Operand → Value} {o : Oper} (s x : Operand) (hop : o.op = Op.slice 47 s none (some x) none) (d q n h : Nat) (hs : ev s = .slice (some ⟨d, q, none⟩) n n) (hx : ev x = .int .i64 (h : Int)) (hl : h ≤ n) (w : World) : (execOp ev o).run Try.prog w = .ok (.value (.slice (some ⟨d, q, none⟩) h n)) w := by
  have und : Try.prog.underlying 47 = some (.slice (Try.prog.elem 47)) := by kernel_rfl
  have hrun := run_slice_h (P := Try.prog) w 47 (some ⟨d, q, none⟩) n n und .i64 (h : Int) (by omega) (by omega)
  rw [show Try.prog.elem 47 = 37 by kernel_rfl, size_sp] at hrun
  have e : sliced (some ⟨d, q, none⟩) 0 (Int.toNat (h : Int)) n 14 = .slice (some ⟨d, q, none⟩) h n := by
    unfold sliced
    rw [Int.toNat_natCast, Nat.zero_mul]
    simp [Addr.add]
  rw [Result.andThen_ok, e] at hrun
  simp [execOp, hop, hs, hx, run_sliceAt_slice w 47 _ _ _ _ und, hrun, Result.andThen]
theorem spo_no1 (v : Value) (d s : Nat → Nat) (f : Nat → Nat → Sp) (g : PL → Int) (h : Hd) (w : World) (hm : Pq w v s d f g) (hk : lk h.k = false) : Calls Try.prog 44 #[v, .agg h.cs.toArray] w fun e w' => e = .returned (.slice none 0 0) ∧ Below w.heap.size w w' := by
  have SK : Hid (∀ W, Calls Try.prog 54 #[.int .i64 h.k] W fun e w' => e = .returned (.bool false) ∧ w' = W) := fun W => by have z := speaks_any h.k W; rwa [hk] at z
  obtain ⟨a, n, e, hn⟩ := sec_form d s h.n
  have SS : Hid (∀ W, Below w.heap.size w W → Calls Try.prog 48 #[v, .int .i64 h.n] W fun e w' => e = .returned (.slice a n n) ∧ w' = W) := fun W hW => by rw [← e]; exact sectors_any v d s f g h.n W (hm.below hW)
  clear hm e hn hk
  have t0 : (0 : Nat) = 0 := rfl
  go_enter Try.func44, Try.ntmps44
  go_wp2_with (first
    | (have qq := t2; go_at_call 54; refine (SK.out _).mono ?_; rintro e w3 ⟨rfl, hw⟩; obtain rfl := hw.symm; clear t2)
    | (have qq := t1; go_at_call 48; refine (SS.out _ BB.out).mono ?_; rintro e w2 ⟨rfl, hw⟩; obtain rfl := hw.symm; clear t1; have t2 : (0 : Nat) = 0 := rfl)
    | (have qq := t0; refine box_lawC _ h.cs rfl ?_; intro w1 X1 B1 l1; have HX : Hid (Vr w1 w.heap.size h.cs) := X1; have nx := six0 X1.1; have BB : Hid (Below w.heap.size w w1) := B1; clear B1 X1 t0; have t1 : (0 : Nat) = 0 := rfl))
  go_ret
  exact ⟨rfl, BB.out⟩
theorem spo_no2 (v : Value) (d s : Nat → Nat) (f : Nat → Nat → Sp) (g : PL → Int) (h : Hd) (w : World) (hm : Pq w v s d f g) (hk : lk h.k = true) (hc : h.c < 1) : Calls Try.prog 44 #[v, .agg h.cs.toArray] w fun e w' => e = .returned (.slice none 0 0) ∧ Below w.heap.size w w' := by
  have SK : Hid (∀ W, Calls Try.prog 54 #[.int .i64 h.k] W fun e w' => e = .returned (.bool true) ∧ w' = W) := fun W => by have z := speaks_any h.k W; rwa [hk] at z
  obtain ⟨a, n, e, hn⟩ := sec_form d s h.n
  have SS : Hid (∀ W, Below w.heap.size w W → Calls Try.prog 48 #[v, .int .i64 h.n] W fun e w' => e = .returned (.slice a n n) ∧ w' = W) := fun W hW => by rw [← e]; exact sectors_any v d s f g h.n W (hm.below hW)
  clear hm e hn hk
  have t0 : (0 : Nat) = 0 := rfl
  go_enter Try.func44, Try.ntmps44
  go_wp2_with (first
    | (have qq := t2; go_at_call 54; refine (SK.out _).mono ?_; rintro e w3 ⟨rfl, hw⟩; obtain rfl := hw.symm; clear t2)
    | (have qq := t1; go_at_call 48; refine (SS.out _ BB.out).mono ?_; rintro e w2 ⟨rfl, hw⟩; obtain rfl := hw.symm; clear t1; have t2 : (0 : Nat) = 0 := rfl)
    | (have qq := t0; refine box_lawC _ h.cs rfl ?_; intro w1 X1 B1 l1; have HX : Hid (Vr w1 w.heap.size h.cs) := X1; have nx := six0 X1.1; have BB : Hid (Below w.heap.size w w1) := B1; clear B1 X1 t0; have t1 : (0 : Nat) = 0 := rfl))
  go_ret
  exact ⟨rfl, BB.out⟩
theorem spo_no3 (v : Value) (d s : Nat → Nat) (f : Nat → Nat → Sp) (g : PL → Int) (h : Hd) (w : World) (hm : Pq w v s d f g) (hk : lk h.k = true) (hc : ¬ h.c < 1) (hd : h.c > szn s h.n) : Calls Try.prog 44 #[v, .agg h.cs.toArray] w fun e w' => e = .returned (.slice none 0 0) ∧ Below w.heap.size w w' := by
  have SK : Hid (∀ W, Calls Try.prog 54 #[.int .i64 h.k] W fun e w' => e = .returned (.bool true) ∧ w' = W) := fun W => by have z := speaks_any h.k W; rwa [hk] at z
  obtain ⟨a, n, e, hn⟩ := sec_form d s h.n
  have SS : Hid (∀ W, Below w.heap.size w W → Calls Try.prog 48 #[v, .int .i64 h.n] W fun e w' => e = .returned (.slice a n n) ∧ w' = W) := fun W hW => by rw [← e]; exact sectors_any v d s f g h.n W (hm.below hW)
  rw [← hn] at hd
  have e1 : decide (h.c < 1) = false := decide_eq_false hc
  clear hm e hn hk
  have t0 : (0 : Nat) = 0 := rfl
  go_enter Try.func44, Try.ntmps44
  go_wp2_with (first
    | (have qq := t2; go_at_call 54; refine (SK.out _).mono ?_; rintro e w3 ⟨rfl, hw⟩; obtain rfl := hw.symm; clear t2)
    | (have qq := t1; go_at_call 48; refine (SS.out _ BB.out).mono ?_; rintro e w2 ⟨rfl, hw⟩; obtain rfl := hw.symm; clear t1; have t2 : (0 : Nat) = 0 := rfl)
    | (have qq := t0; refine box_lawC _ h.cs rfl ?_; intro w1 X1 B1 l1; have HX : Hid (Vr w1 w.heap.size h.cs) := X1; have nx := six0 X1.1; have BB : Hid (Below w.heap.size w w1) := B1; clear B1 X1 t0; have t1 : (0 : Nat) = 0 := rfl))
  go_ret
  exact ⟨rfl, BB.out⟩
theorem spo_no4 (v : Value) (d s : Nat → Nat) (f : Nat → Nat → Sp) (g : PL → Int) (h : Hd) (w : World) (hm : Pq w v s d f g) (hk : lk h.k = true) (hc : ¬ h.c < 1) (hd : ¬ h.c > szn s h.n) (ho : Hok h) (hz : szn s h.n ≤ 65535) (hl : h.l > szn s h.n - h.c) : Calls Try.prog 44 #[v, .agg h.cs.toArray] w fun e w' => e = .returned (.slice none 0 0) ∧ Below w.heap.size w w' := by
  have SK : Hid (∀ W, Calls Try.prog 54 #[.int .i64 h.k] W fun e w' => e = .returned (.bool true) ∧ w' = W) := fun W => by have z := speaks_any h.k W; rwa [hk] at z
  obtain ⟨a, n, e, hn⟩ := sec_form d s h.n
  have SS : Hid (∀ W, Below w.heap.size w W → Calls Try.prog 48 #[v, .int .i64 h.n] W fun e w' => e = .returned (.slice a n n) ∧ w' = W) := fun W hW => by rw [← e]; exact sectors_any v d s f g h.n W (hm.below hW)
  rw [← hn] at hd hz hl
  have e1 : decide (h.c < 1) = false := decide_eq_false hc
  have e2 : IntKind.u64.wrap h.l = h.l := by have := ho.1; have := ho.2; simp [IntKind.wrap, IntKind.bits, IntKind.signed]; omega
  have e3 : IntKind.i64.wrap ((n : Int) - h.c) = (n : Int) - h.c := by rw [IntKind.wrap_i64]; omega
  have e4 : IntKind.u64.wrap ((n : Int) - h.c) = (n : Int) - h.c := by simp [IntKind.wrap, IntKind.bits, IntKind.signed]; omega
  clear ho
  clear hm e hn hk
  have t0 : (0 : Nat) = 0 := rfl
  go_enter Try.func44, Try.ntmps44
  go_wp2_with (first
    | (have qq := t2; go_at_call 54; refine (SK.out _).mono ?_; rintro e w3 ⟨rfl, hw⟩; obtain rfl := hw.symm; clear t2)
    | (have qq := t1; go_at_call 48; refine (SS.out _ BB.out).mono ?_; rintro e w2 ⟨rfl, hw⟩; obtain rfl := hw.symm; clear t1; have t2 : (0 : Nat) = 0 := rfl)
    | (have qq := t0; refine box_lawC _ h.cs rfl ?_; intro w1 X1 B1 l1; have HX : Hid (Vr w1 w.heap.size h.cs) := X1; have nx := six0 X1.1; have BB : Hid (Below w.heap.size w w1) := B1; clear B1 X1 t0; have t1 : (0 : Nat) = 0 := rfl))
  go_ret
  exact ⟨rfl, BB.out⟩
set_option maxHeartbeats 2000000 in
theorem spo_yes (c : Nat) (rb : Option Nat) (d s : Nat → Nat) (f : Nat → Nat → Sp) (g : PL → Int) (h : Hd) (w : World) (hm : Pm w c d s f rb g) (i l k : Nat) (hi : h.n = i) (hi4 : i < 4) (hll : h.l = l) (hcc : h.c = k) (hz : s i ≤ 65535) (hk : lk h.k = true) (hc : 1 ≤ k) (hd : l + k ≤ s i) :
    Calls Try.prog 44 #[pt c, .agg h.cs.toArray] w fun e w' => ∃ cap, e = .returned (.slice (some ⟨d i, l * 14, none⟩) k cap) ∧ Below w.heap.size w w' := by
  have SK : Hid (∀ W, Calls Try.prog 54 #[.int .i64 h.k] W fun e w' => e = .returned (.bool true) ∧ w' = W) := fun W => by have z := speaks_any h.k W; rwa [hk] at z
  obtain ⟨n, hn⟩ : ∃ n, n = s i := ⟨_, rfl⟩
  rw [← hn] at hz hd
  have SS : Hid (∀ W, Below w.heap.size w W → Calls Try.prog 48 #[pt c, .int .i64 (i : Int)] W fun e w' => e = .returned (.slice (some ⟨d i, 0, none⟩) n n) ∧ w' = W) := fun W hW => by
    have z := sectors_any (pt c) d s f g (i : Int) W (.inr ⟨c, rb, rfl, hm.below hW⟩)
    have e : sec d s (i : Int) = .slice (some ⟨d i, 0, none⟩) n n := by
      unfold sec sv
      rw [if_pos (by omega), Int.toNat_natCast, ← hn, if_neg (by omega)]
    rwa [e] at z
  obtain ⟨D, hD⟩ : ∃ D, D = d i := ⟨_, rfl⟩
  rw [← hD] at SS ⊢
  obtain ⟨h1, h2, h3, h4, h5, h6⟩ := h
  have q1 : h2 = (i : Int) := hi
  have q2 : h4 = (l : Int) := hll
  have q3 : h3 = (k : Int) := hcc
  subst q1 q2 q3
  have e1 : ((k : Int) < 1) = False := by simp; omega
  have e0 : decide ((k : Int) < 1) = false := decide_eq_false (by omega)
  have e5 : ¬ ((k : Int) > (n : Int)) := by omega
  have e2 : IntKind.u64.wrap (l : Int) = (l : Int) := by simp [IntKind.wrap, IntKind.bits, IntKind.signed]; omega
  have e3 : IntKind.i64.wrap ((n : Int) - (k : Int)) = (n : Int) - (k : Int) := by rw [IntKind.wrap_i64]; omega
  have e4 : IntKind.u64.wrap ((n : Int) - (k : Int)) = (n : Int) - (k : Int) := by simp [IntKind.wrap, IntKind.bits, IntKind.signed]; omega
  have e6 : ¬ ((l : Int) > (n : Int) - (k : Int)) := by omega
  have HN : Hid (l + k ≤ n ∧ 1 ≤ k) := ⟨hd, hc⟩
  clear hm hn hk hD hi hll hcc e1
  have t0 : (0 : Nat) = 0 := rfl
  go_enter Try.func44, Try.ntmps44
  go_wp2_with (first
    | (have qq := t2; go_at_call 54; refine (SK.out _).mono ?_; rintro e w3 ⟨rfl, hw⟩; obtain rfl := hw.symm; clear t2)
    | (have qq := t1; go_at_call 48; refine (SS.out _ BB.out).mono ?_; rintro e w2 ⟨rfl, hw⟩; obtain rfl := hw.symm; clear t1; have t2 : (0 : Nat) = 0 := rfl)
    | (have qq := t0; refine box_lawC _ (Hd.cs ⟨h1, (i : Int), (k : Int), (l : Int), h5, h6⟩) rfl ?_; intro w1 X1 B1 l1; have HX : Hid (Vr w1 w.heap.size (Hd.cs ⟨h1, (i : Int), (k : Int), (l : Int), h5, h6⟩)) := X1; have nx := six0 X1.1; have BB : Hid (Below w.heap.size w w1) := B1; clear B1 X1 t0; have t1 : (0 : Nat) = 0 := rfl))
  have HA : Hid (w1.drew.cell? ⟨w.heap.size, 3, none⟩ = some (.int .u32 (l : Int))) := nx.2.2.2.1
  have HB : Hid (w1.drew.cell? ⟨w.heap.size, 2, none⟩ = some (.int .i64 (k : Int))) := nx.2.2.1
  have HU : Hid (Below w.heap.size w w1.drew) := below_dr BB.out 1
  refine wp_region_held_drew (S := fun w' => w'.cell? ⟨w.heap.size, 3, none⟩ = some (.int .u32 (l : Int)) ∧ w'.cell? ⟨w.heap.size, 2, none⟩ = some (.int .i64 (k : Int))) (by kernel_rfl) ⟨HA.out, HB.out⟩ (fun hS => ?_)
  obtain ⟨x1, hx0⟩ : ∃ x, x = w1.drew := ⟨_, rfl⟩
  rw [← hx0] at hS HA HB HU ⊢
  clear hx0
  refine take_lawH 0 (some 36) (.slice (some ⟨D, 0, none⟩) n n) rfl rfl (by kernel_rfl) (by kernel_rfl) (by kernel_rfl) (fun _ _ _ h => h) (Or.inl ⟨by rfl, fun w' hw' => by rfl⟩) hS ?_
  simp only [Act.put, List.setIfInBounds_toArray, List.set_cons_zero, List.set_cons_succ]
  refine take_lawH 1 (some 37) (.pointer (some ⟨w.heap.size, 3, none⟩)) rfl rfl (by kernel_rfl) (by kernel_rfl) (by kernel_rfl) (fun _ _ _ h => h) (Or.inl ⟨by rfl, fun w' hw' => by go_simp⟩) hS ?_
  simp only [Act.put, List.setIfInBounds_toArray, List.set_cons_zero, List.set_cons_succ]
  refine take_lawH 2 (some 38) (.int .u32 (l : Int)) rfl rfl (by kernel_rfl) (by kernel_rfl) (by kernel_rfl) (fun _ _ _ h => h) (Or.inl ⟨by rfl, fun w' hw' => by exact exec_loadN 32 (.tmp 37) rfl _ rfl _ _ (load_u32 hw'.1)⟩) hS ?_
  simp only [Act.put, List.setIfInBounds_toArray, List.set_cons_zero, List.set_cons_succ]
  refine take_lawH 3 (some 39) (.slice (some ⟨D, l * 14, none⟩) (n - l) (n - l)) rfl rfl (by kernel_rfl) (by kernel_rfl) (by kernel_rfl) (fun _ _ _ h => h) (Or.inl ⟨by rfl, fun w' hw' => by exact exec_fromS (.tmp 36) (.tmp 38) rfl D n l rfl rfl (by have := HN.out; omega) _⟩) hS ?_
  simp only [Act.put, List.setIfInBounds_toArray, List.set_cons_zero, List.set_cons_succ]
  refine take_lawH 4 (some 40) (.pointer (some ⟨w.heap.size, 2, none⟩)) rfl rfl (by kernel_rfl) (by kernel_rfl) (by kernel_rfl) (fun _ _ _ h => h) (Or.inl ⟨by rfl, fun w' hw' => by go_simp⟩) hS ?_
  simp only [Act.put, List.setIfInBounds_toArray, List.set_cons_zero, List.set_cons_succ]
  refine take_lawH 5 (some 41) (.int .i64 (k : Int)) rfl rfl (by kernel_rfl) (by kernel_rfl) (by kernel_rfl) (fun _ _ _ h => h) (Or.inl ⟨by rfl, fun w' hw' => by exact exec_loadN 3 (.tmp 40) rfl _ rfl _ _ (load_int hw'.2)⟩) hS ?_
  simp only [Act.put, List.setIfInBounds_toArray, List.set_cons_zero, List.set_cons_succ]
  refine take_lawH 6 (some 42) (.slice (some ⟨D, l * 14, none⟩) k (n - l)) rfl rfl (by kernel_rfl) (by kernel_rfl) (by kernel_rfl) (fun _ _ _ h => h) (Or.inl ⟨by rfl, fun w' hw' => by exact exec_toS (.tmp 39) (.tmp 41) rfl D (l * 14) (n - l) k rfl rfl (by have := HN.out; omega) _⟩) hS ?_
  simp only [Act.put, List.setIfInBounds_toArray, List.set_cons_zero, List.set_cons_succ]
  refine take_lawH 7 (some 4) (.slice (some ⟨D, l * 14, none⟩) k (n - l)) rfl rfl (by kernel_rfl) (by kernel_rfl) (by kernel_rfl) (fun _ _ _ h => h) (Or.inl ⟨by rfl, fun w' hw' => by rfl⟩) hS ?_
  simp only [Act.put, List.setIfInBounds_toArray, List.set_cons_zero, List.set_cons_succ]
  refine wpAnyH_done (by kernel_rfl) ?_ _
  go_wp2
  go_ret
  exact ⟨_, rfl, HU.out⟩
end Go.Proofs.Ytedmmpognhpbdaa.pm
