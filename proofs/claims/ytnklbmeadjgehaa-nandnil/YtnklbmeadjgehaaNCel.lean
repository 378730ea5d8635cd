/- What nand's pageCells and blockCells answer: where in an array's bytes a page, a block lies. No claim of its own. -/
import Derived.Test.YtnklbmeadjgehaaNSml
import Derived.Test.YtnklbmeadjgehaaGIdx
import Derived.Test.YtnklbmeadjgehaaGStep
namespace Go.Proofs.Ytnklbmeadjgehaa.na
open Go.RowKit Go.Proofs.Ytnklbmeadjgehaa.fa
set_option maxRecDepth 20000

theorem index_nat (g p : List Int) (hl : g.length = 6) (hp : p.length = 2) (h : ge.Rt g) (N P b j : Nat) (g0 : gb g 0 = N) (g1 : gb g 1 = P) (e0 : gb p 0 = b) (e1 : gb p 1 = j) (hb : b < N) (hj : j < P) (w : World) :
    Calls Try.prog 69 #[.agg (ints .i64 g), .agg (ints .i64 p)] w fun x w' => x = .returned (.tuple #[.int .i64 ((b * P + j : Nat) : Int), .int .i64 0]) ∧ Below w.heap.size w w' := by
  have := ge.index_yes g p hl hp h (by omega) (by omega) (by omega) (by omega) w
  rw [e0, e1, g1] at this
  have e : ((b * P + j : Nat) : Int) = (b : Int) * (P : Int) + (j : Int) := by simp
  rw [e]; exact this
theorem index_none (g p : List Int) (hl : g.length = 6) (hp : p.length = 2) (N P : Nat) (g0 : gb g 0 = N) (g1 : gb g 1 = P) (h : ¬ (0 ≤ gb p 0 ∧ gb p 0 < N ∧ 0 ≤ gb p 1 ∧ gb p 1 < P)) (w : World) :
    Calls Try.prog 69 #[.agg (ints .i64 g), .agg (ints .i64 p)] w fun x w' => x = .returned (.tuple #[.int .i64 0, .int .i64 2]) ∧ Below w.heap.size w w' :=
  ge.index_no g p hl hp (fun q => h (by obtain ⟨-, a, b, c, d⟩ := q; omega)) w
/-- a page lies within an array -/
theorem idx_fits {N P S b j : Nat} (hb : b < N) (hj : j < P) : (b * P + j + 1) * S ≤ N * (P * S) ∧ b * P + j < N * P := by
  have h1 : b * P + j + 1 ≤ N * P := by
    have := Nat.mul_le_mul_right P (show b + 1 ≤ N by omega)
    rw [Nat.succ_mul] at this; omega
  have := Nat.mul_le_mul_right S h1
  rw [Nat.mul_assoc] at this
  exact ⟨this, by omega⟩
theorem psize_nat (g : List Int) (hl : g.length = 6) (h : ge.Rt g) (S : Nat) (e : gb g 2 + 88 = S) (w : World) :
    Calls Try.prog 37 #[.agg (ints .i64 g)] w fun x w' => x = .returned (.int .i64 (S : Int)) ∧ Below w.heap.size w w' := by
  have := ge.psize_yes g hl h w
  rw [e] at this; exact this

section
variable {M : Nat → Bool} {w : World} {c r d : Nat} {q : Nat → Nat} {pv tv : Value} {g : List Int} {N P S : Nat} {pl : Pln} {X : Raw}

set_option maxHeartbeats 4000000 in
theorem pageCells_no (h : Lay M w c r d q pv tv g N P S pl X) (p : List Int) (hp : p.length = 2) (hn : ¬ (0 ≤ gb p 0 ∧ gb p 0 < N ∧ 0 ≤ gb p 1 ∧ gb p 1 < P)) :
    Calls Try.prog 48 #[.pointer (some ⟨c, 0, none⟩), .agg (ints .i64 p)] w fun e w' => e = .returned (.tuple #[.slice none 0 0, .int .i64 2]) ∧ Below w.heap.size w w' := by
  have HL : Hid (Lay M w c r d q pv tv g N P S pl X) := h
  obtain ⟨gl, hr, g0, g1, g2⟩ := h.1
  have SI : Hid (∀ w, Calls Try.prog 69 #[.agg (ints .i64 g), .agg (ints .i64 p)] w fun x w' => x = .returned (.tuple #[.int .i64 0, .int .i64 2]) ∧ Below w.heap.size w w') := index_none g p gl hp N P g0 g1 hn
  clear hn
  clear h
  have t0 : (0 : Nat) = 0 := rfl
  go_enter Try.func48, Try.ntmps48
  go_wp2_with (have q0 := t0; refine box_lawF _ rfl (.tmp 1) 43 rfl .i64 p rfl ?_; intro w1 X1 B1 l1; have HP : Hid (Ar w1 w.heap.size 0 .i64 p) := X1; have HL : Hid (Lay M w1 c r d q pv tv g N P S pl X) := HL.out.below B1; have BB : Hid (Below w.heap.size w w1) := B1; clear X1 B1 t0)
  refine wp_region_held_drew (S := fun w' => Below w1.heap.size w1 w') (by kernel_rfl) (Below.refl _ _).drew (fun hS => ?_)
  obtain ⟨x1, hx0⟩ : ∃ x, x = w1.drew := ⟨_, rfl⟩
  rw [← hx0] at hS  ⊢
  clear hx0
  refine take_lawH 0 (some 9) (.pointer (some ⟨c, 0, none⟩)) rfl rfl (by kernel_rfl) (by kernel_rfl) (by kernel_rfl) (fun _ _ _ h => h) (Or.inl ⟨by rfl, fun w' hw' => by rfl⟩) hS ?_
  simp only [Act.put, List.setIfInBounds_toArray, List.set_cons_zero, List.set_cons_succ]
  refine take_lawH 1 (some 10) (.pointer (some ⟨c, 0, none⟩)) rfl rfl (by kernel_rfl) (by kernel_rfl) (by kernel_rfl) (fun _ _ _ h => h) (Or.inl ⟨by rfl, fun w' hw' => by go_simp⟩) hS ?_
  simp only [Act.put, List.setIfInBounds_toArray, List.set_cons_zero, List.set_cons_succ]
  refine take_lawH 2 (some 11) (.pointer (some ⟨c, 0, none⟩)) rfl rfl (by kernel_rfl) (by kernel_rfl) (by kernel_rfl) (fun _ _ _ h => h) (Or.inl ⟨by rfl, fun w' hw' => by go_simp⟩) hS ?_
  simp only [Act.put, List.setIfInBounds_toArray, List.set_cons_zero, List.set_cons_succ]
  refine take_lawH 3 (some 12) (.agg (ints .i64 g)) rfl rfl (by kernel_rfl) (by kernel_rfl) (by kernel_rfl) (fun _ _ _ h => h) (Or.inl ⟨by rfl, fun w' hw' => by exact exec_loadN 23 (.tmp 11) rfl _ rfl _ _ (ld_geo gl (HL.out.below hw').geo)⟩) hS ?_
  simp only [Act.put, List.setIfInBounds_toArray, List.set_cons_zero, List.set_cons_succ]
  refine take_lawH 4 (some 13) (.agg (ints .i64 p)) rfl rfl (by kernel_rfl) (by kernel_rfl) (by kernel_rfl) (fun _ _ _ h => h) (Or.inl ⟨by rfl, fun w' hw' => by exact exec_loadN 43 (.tmp 3) rfl _ rfl _ _ (ld_place hp (HP.out.below hw' l1).1)⟩) hS ?_
  simp only [Act.put, List.setIfInBounds_toArray, List.set_cons_zero, List.set_cons_succ]
  refine wpAnyH_ready (rs := [5]) (by kernel_rfl) (by simp) ?_
  refine AllReadyH.cons rfl (fun K hK => ?_) AllReadyH.nil
  refine ge.step_callW _ (by rfl) (some 14) rfl 69 #[.tmp 12, .tmp 13] #[23, 43] rfl (fun q w' => by rfl) #[.agg (ints .i64 g), .agg (ints .i64 p)] (by simp only [List.map_toArray, List.map_cons, List.map_nil]; rfl) (fun v w' => v = (.tuple #[.int .i64 (0), .int .i64 2]) ∧ Below x1.heap.size x1 w') ?_ ?_
  · exact (SI.out x1).mono fun e w' ⟨h1, h2⟩ => ⟨_, h1, rfl, h2⟩
  rintro _ x2 ⟨rfl, hb⟩
  have hS : Below w1.heap.size w1 x2 := hS.trans (hb.mono hS.size)
  clear hb
  refine hK.out _ _ hS (fun _ => ?_)
  simp only [Act.put, List.setIfInBounds_toArray, List.set_cons_zero, List.set_cons_succ]
  clear hK K
  refine take_lawH 6 (some 8) ((.tuple #[.int .i64 (0), .int .i64 2])) rfl rfl (by kernel_rfl) (by kernel_rfl) (by kernel_rfl) (fun _ _ _ h => h) (Or.inl ⟨by rfl, fun w' hw' => by rfl⟩) hS ?_
  simp only [Act.put, List.setIfInBounds_toArray, List.set_cons_zero, List.set_cons_succ]
  refine take_lawH 7 (some 15) (.int .i64 (0)) rfl rfl (by kernel_rfl) (by kernel_rfl) (by kernel_rfl) (fun _ _ _ h => h) (Or.inl ⟨by rfl, fun w' hw' => by rfl⟩) hS ?_
  simp only [Act.put, List.setIfInBounds_toArray, List.set_cons_zero, List.set_cons_succ]
  refine take_lawH 8 (some 16) (.int .i64 2) rfl rfl (by kernel_rfl) (by kernel_rfl) (by kernel_rfl) (fun _ _ _ h => h) (Or.inl ⟨by rfl, fun w' hw' => by rfl⟩) hS ?_
  simp only [Act.put, List.setIfInBounds_toArray, List.set_cons_zero, List.set_cons_succ]
  refine take_lawH 9 (some 6) (.int .i64 (0)) rfl rfl (by kernel_rfl) (by kernel_rfl) (by kernel_rfl) (fun _ _ _ h => h) (Or.inl ⟨by rfl, fun w' hw' => by rfl⟩) hS ?_
  simp only [Act.put, List.setIfInBounds_toArray, List.set_cons_zero, List.set_cons_succ]
  refine take_lawH 10 (some 7) (.int .i64 2) rfl rfl (by kernel_rfl) (by kernel_rfl) (by kernel_rfl) (fun _ _ _ h => h) (Or.inl ⟨by rfl, fun w' hw' => by rfl⟩) hS ?_
  simp only [Act.put, List.setIfInBounds_toArray, List.set_cons_zero, List.set_cons_succ]
  refine wpAnyH_done (by kernel_rfl) ?_ _
  have BB : Hid (Below w.heap.size w x2) := BB.out.trans (hS.mono BB.out.size)
  have HL : Hid (Lay M x2 c r d q pv tv g N P S pl X) := HL.out.below hS
  clear hS
  go_wp2
  go_ret2
  exact ⟨rfl, BB.out⟩

set_option maxHeartbeats 4000000 in
theorem pageCells_yes (h : Lay M w c r d q pv tv g N P S pl X) (p : List Int) (hp : p.length = 2) (b j n : Nat) (e0 : gb p 0 = b) (e1 : gb p 1 = j) (hb : b < N) (hj : j < P) (hn : n = b * P + j) :
    Calls Try.prog 48 #[.pointer (some ⟨c, 0, none⟩), .agg (ints .i64 p)] w fun e w' => e = .returned (.tuple #[.slice (some ⟨d, n * S, none⟩) S (N * (P * S) - n * S), .int .i64 0]) ∧ Below w.heap.size w w' := by
  have HL : Hid (Lay M w c r d q pv tv g N P S pl X) := h
  obtain ⟨gl, hr, g0, g1, g2⟩ := h.1
  have SI : Hid (∀ w, Calls Try.prog 69 #[.agg (ints .i64 g), .agg (ints .i64 p)] w fun x w' => x = .returned (.tuple #[.int .i64 ((n : Nat) : Int), .int .i64 0]) ∧ Below w.heap.size w w') := by
    subst hn; exact index_nat g p gl hp hr N P b j g0 g1 e0 e1 hb hj
  have SP : Hid (∀ w, Calls Try.prog 37 #[.agg (ints .i64 g)] w fun x w' => x = .returned (.int .i64 (S : Int)) ∧ Below w.heap.size w w') := psize_nat g gl hr S g2
  have SQ : Hid (∀ w, Calls Try.prog 70 #[.slice (some ⟨d, 0, none⟩) (N * (P * S)) (N * (P * S)), .int .i64 (n : Int), .int .i64 (S : Int)] w fun e w' => e = .returned (.slice (some ⟨d, n * S, none⟩) S (N * (P * S) - n * S)) ∧ Below w.heap.size w w') := fun w => by
    obtain ⟨a1, a2, a3, a4, a5, a6⟩ := h.num
    obtain ⟨b1, b2, b3⟩ := h.bytes
    have f := idx_fits (S := S) hb hj
    rw [← hn] at f
    have f3 : n < N * P := f.2
    have f4 : N * P ≤ 64 * 32 := Nat.mul_le_mul a2 a4
    exact (part_any d (N * (P * S)) n S w (by omega) f.1 (by omega) (by omega) (by omega)).mono fun e w' ⟨h1, h2⟩ => ⟨h1, by rw [h2]; exact Below.refl _ _⟩
  clear hb hj e0 e1 hn
  clear h
  have t0 : (0 : Nat) = 0 := rfl
  go_enter Try.func48, Try.ntmps48
  go_wp2_with (have q0 := t0; refine box_lawF _ rfl (.tmp 1) 43 rfl .i64 p rfl ?_; intro w1 X1 B1 l1; have HP : Hid (Ar w1 w.heap.size 0 .i64 p) := X1; have HL : Hid (Lay M w1 c r d q pv tv g N P S pl X) := HL.out.below B1; have BB : Hid (Below w.heap.size w w1) := B1; clear X1 B1 t0)
  refine wp_region_held_drew (S := fun w' => Below w1.heap.size w1 w') (by kernel_rfl) (Below.refl _ _).drew (fun hS => ?_)
  obtain ⟨x1, hx0⟩ : ∃ x, x = w1.drew := ⟨_, rfl⟩
  rw [← hx0] at hS  ⊢
  clear hx0
  refine take_lawH 0 (some 9) (.pointer (some ⟨c, 0, none⟩)) rfl rfl (by kernel_rfl) (by kernel_rfl) (by kernel_rfl) (fun _ _ _ h => h) (Or.inl ⟨by rfl, fun w' hw' => by rfl⟩) hS ?_
  simp only [Act.put, List.setIfInBounds_toArray, List.set_cons_zero, List.set_cons_succ]
  refine take_lawH 1 (some 10) (.pointer (some ⟨c, 0, none⟩)) rfl rfl (by kernel_rfl) (by kernel_rfl) (by kernel_rfl) (fun _ _ _ h => h) (Or.inl ⟨by rfl, fun w' hw' => by go_simp⟩) hS ?_
  simp only [Act.put, List.setIfInBounds_toArray, List.set_cons_zero, List.set_cons_succ]
  refine take_lawH 2 (some 11) (.pointer (some ⟨c, 0, none⟩)) rfl rfl (by kernel_rfl) (by kernel_rfl) (by kernel_rfl) (fun _ _ _ h => h) (Or.inl ⟨by rfl, fun w' hw' => by go_simp⟩) hS ?_
  simp only [Act.put, List.setIfInBounds_toArray, List.set_cons_zero, List.set_cons_succ]
  refine take_lawH 3 (some 12) (.agg (ints .i64 g)) rfl rfl (by kernel_rfl) (by kernel_rfl) (by kernel_rfl) (fun _ _ _ h => h) (Or.inl ⟨by rfl, fun w' hw' => by exact exec_loadN 23 (.tmp 11) rfl _ rfl _ _ (ld_geo gl (HL.out.below hw').geo)⟩) hS ?_
  simp only [Act.put, List.setIfInBounds_toArray, List.set_cons_zero, List.set_cons_succ]
  refine take_lawH 4 (some 13) (.agg (ints .i64 p)) rfl rfl (by kernel_rfl) (by kernel_rfl) (by kernel_rfl) (fun _ _ _ h => h) (Or.inl ⟨by rfl, fun w' hw' => by exact exec_loadN 43 (.tmp 3) rfl _ rfl _ _ (ld_place hp (HP.out.below hw' l1).1)⟩) hS ?_
  simp only [Act.put, List.setIfInBounds_toArray, List.set_cons_zero, List.set_cons_succ]
  refine wpAnyH_ready (rs := [5]) (by kernel_rfl) (by simp) ?_
  refine AllReadyH.cons rfl (fun K hK => ?_) AllReadyH.nil
  refine ge.step_callW _ (by rfl) (some 14) rfl 69 #[.tmp 12, .tmp 13] #[23, 43] rfl (fun q w' => by rfl) #[.agg (ints .i64 g), .agg (ints .i64 p)] (by simp only [List.map_toArray, List.map_cons, List.map_nil]; rfl) (fun v w' => v = (.tuple #[.int .i64 (((n : Nat) : Int)), .int .i64 0]) ∧ Below x1.heap.size x1 w') ?_ ?_
  · exact (SI.out x1).mono fun e w' ⟨h1, h2⟩ => ⟨_, h1, rfl, h2⟩
  rintro _ x2 ⟨rfl, hb⟩
  have hS : Below w1.heap.size w1 x2 := hS.trans (hb.mono hS.size)
  clear hb
  refine hK.out _ _ hS (fun _ => ?_)
  simp only [Act.put, List.setIfInBounds_toArray, List.set_cons_zero, List.set_cons_succ]
  clear hK K
  refine take_lawH 6 (some 8) ((.tuple #[.int .i64 (((n : Nat) : Int)), .int .i64 0])) rfl rfl (by kernel_rfl) (by kernel_rfl) (by kernel_rfl) (fun _ _ _ h => h) (Or.inl ⟨by rfl, fun w' hw' => by rfl⟩) hS ?_
  simp only [Act.put, List.setIfInBounds_toArray, List.set_cons_zero, List.set_cons_succ]
  refine take_lawH 7 (some 15) (.int .i64 (((n : Nat) : Int))) rfl rfl (by kernel_rfl) (by kernel_rfl) (by kernel_rfl) (fun _ _ _ h => h) (Or.inl ⟨by rfl, fun w' hw' => by rfl⟩) hS ?_
  simp only [Act.put, List.setIfInBounds_toArray, List.set_cons_zero, List.set_cons_succ]
  refine take_lawH 8 (some 16) (.int .i64 0) rfl rfl (by kernel_rfl) (by kernel_rfl) (by kernel_rfl) (fun _ _ _ h => h) (Or.inl ⟨by rfl, fun w' hw' => by rfl⟩) hS ?_
  simp only [Act.put, List.setIfInBounds_toArray, List.set_cons_zero, List.set_cons_succ]
  refine take_lawH 9 (some 6) (.int .i64 (((n : Nat) : Int))) rfl rfl (by kernel_rfl) (by kernel_rfl) (by kernel_rfl) (fun _ _ _ h => h) (Or.inl ⟨by rfl, fun w' hw' => by rfl⟩) hS ?_
  simp only [Act.put, List.setIfInBounds_toArray, List.set_cons_zero, List.set_cons_succ]
  refine take_lawH 10 (some 7) (.int .i64 0) rfl rfl (by kernel_rfl) (by kernel_rfl) (by kernel_rfl) (fun _ _ _ h => h) (Or.inl ⟨by rfl, fun w' hw' => by rfl⟩) hS ?_
  simp only [Act.put, List.setIfInBounds_toArray, List.set_cons_zero, List.set_cons_succ]
  refine wpAnyH_done (by kernel_rfl) ?_ _
  have BB : Hid (Below w.heap.size w x2) := BB.out.trans (hS.mono BB.out.size)
  have HL : Hid (Lay M x2 c r d q pv tv g N P S pl X) := HL.out.below hS
  clear hS
  go_wp2
  refine wp_region_held_drew (S := fun w' => Below x2.heap.size x2 w') (by kernel_rfl) (Below.refl _ _).drew (fun hS => ?_)
  obtain ⟨y1, hx0⟩ : ∃ x, x = x2.drew := ⟨_, rfl⟩
  rw [← hx0] at hS  ⊢
  clear hx0
  refine take_lawH 0 (some 20) (.pointer (some ⟨c, 0, none⟩)) rfl rfl (by kernel_rfl) (by kernel_rfl) (by kernel_rfl) (fun _ _ _ h => h) (Or.inl ⟨by rfl, fun w' hw' => by rfl⟩) hS ?_
  simp only [Act.put, List.setIfInBounds_toArray, List.set_cons_zero, List.set_cons_succ]
  refine take_lawH 1 (some 21) (.pointer (some ⟨c, 0, none⟩)) rfl rfl (by kernel_rfl) (by kernel_rfl) (by kernel_rfl) (fun _ _ _ h => h) (Or.inl ⟨by rfl, fun w' hw' => by go_simp⟩) hS ?_
  simp only [Act.put, List.setIfInBounds_toArray, List.set_cons_zero, List.set_cons_succ]
  refine take_lawH 2 (some 22) (.pointer (some ⟨c, 8, none⟩)) rfl rfl (by kernel_rfl) (by kernel_rfl) (by kernel_rfl) (fun _ _ _ h => h) (Or.inl ⟨by rfl, fun w' hw' => by go_simp⟩) hS ?_
  simp only [Act.put, List.setIfInBounds_toArray, List.set_cons_zero, List.set_cons_succ]
  refine take_lawH 3 (some 23) (.slice (some ⟨d, 0, none⟩) (N * (P * S)) (N * (P * S))) rfl rfl (by kernel_rfl) (by kernel_rfl) (by kernel_rfl) (fun _ _ _ h => h) (Or.inl ⟨by rfl, fun w' hw' => by exact exec_loadN 53 (.tmp 22) rfl _ rfl _ _ (load_one one_bytes (HL.out.below hw').cells.2.2.1)⟩) hS ?_
  simp only [Act.put, List.setIfInBounds_toArray, List.set_cons_zero, List.set_cons_succ]
  refine take_lawH 4 (some 24) (.int .i64 (n : Int)) rfl rfl (by kernel_rfl) (by kernel_rfl) (by kernel_rfl) (fun _ _ _ h => h) (Or.inl ⟨by rfl, fun w' hw' => by rfl⟩) hS ?_
  simp only [Act.put, List.setIfInBounds_toArray, List.set_cons_zero, List.set_cons_succ]
  refine take_lawH 5 (some 25) (.pointer (some ⟨c, 0, none⟩)) rfl rfl (by kernel_rfl) (by kernel_rfl) (by kernel_rfl) (fun _ _ _ h => h) (Or.inl ⟨by rfl, fun w' hw' => by rfl⟩) hS ?_
  simp only [Act.put, List.setIfInBounds_toArray, List.set_cons_zero, List.set_cons_succ]
  refine take_lawH 6 (some 26) (.pointer (some ⟨c, 0, none⟩)) rfl rfl (by kernel_rfl) (by kernel_rfl) (by kernel_rfl) (fun _ _ _ h => h) (Or.inl ⟨by rfl, fun w' hw' => by go_simp⟩) hS ?_
  simp only [Act.put, List.setIfInBounds_toArray, List.set_cons_zero, List.set_cons_succ]
  refine take_lawH 7 (some 27) (.pointer (some ⟨c, 0, none⟩)) rfl rfl (by kernel_rfl) (by kernel_rfl) (by kernel_rfl) (fun _ _ _ h => h) (Or.inl ⟨by rfl, fun w' hw' => by go_simp⟩) hS ?_
  simp only [Act.put, List.setIfInBounds_toArray, List.set_cons_zero, List.set_cons_succ]
  refine take_lawH 8 (some 28) (.agg (ints .i64 g)) rfl rfl (by kernel_rfl) (by kernel_rfl) (by kernel_rfl) (fun _ _ _ h => h) (Or.inl ⟨by rfl, fun w' hw' => by exact exec_loadN 23 (.tmp 27) rfl _ rfl _ _ (ld_geo gl (HL.out.below hw').geo)⟩) hS ?_
  simp only [Act.put, List.setIfInBounds_toArray, List.set_cons_zero, List.set_cons_succ]
  refine wpAnyH_ready (rs := [9]) (by kernel_rfl) (by simp) ?_
  refine AllReadyH.cons rfl (fun K hK => ?_) AllReadyH.nil
  refine ge.step_callW _ (by rfl) (some 29) rfl 37 #[.tmp 28] #[23] rfl (fun q w' => by rfl) #[.agg (ints .i64 g)] (by simp only [List.map_toArray, List.map_cons, List.map_nil]; rfl) (fun v w' => v = (.int .i64 (S : Int)) ∧ Below y1.heap.size y1 w') ?_ ?_
  · exact (SP.out y1).mono fun e w' ⟨h1, h2⟩ => ⟨_, h1, rfl, h2⟩
  rintro _ y2 ⟨rfl, hb⟩
  have hS : Below x2.heap.size x2 y2 := hS.trans (hb.mono hS.size)
  clear hb
  refine hK.out _ _ hS (fun _ => ?_)
  simp only [Act.put, List.setIfInBounds_toArray, List.set_cons_zero, List.set_cons_succ]
  clear hK K
  refine wpAnyH_ready (rs := [10]) (by kernel_rfl) (by simp) ?_
  refine AllReadyH.cons rfl (fun K hK => ?_) AllReadyH.nil
  refine ge.step_callW _ (by rfl) (some 30) rfl 70 #[.tmp 23, .tmp 24, .tmp 29] #[53, 3, 3] rfl (fun q w' => by rfl) #[.slice (some ⟨d, 0, none⟩) (N * (P * S)) (N * (P * S)), .int .i64 (n : Int), .int .i64 (S : Int)] (by simp only [List.map_toArray, List.map_cons, List.map_nil]; rfl) (fun v w' => v = (.slice (some ⟨d, n * S, none⟩) S (N * (P * S) - n * S)) ∧ Below y2.heap.size y2 w') ?_ ?_
  · exact (SQ.out y2).mono fun e w' ⟨h1, h2⟩ => ⟨_, h1, rfl, h2⟩
  rintro _ y3 ⟨rfl, hb⟩
  have hS : Below x2.heap.size x2 y3 := hS.trans (hb.mono hS.size)
  clear hb
  refine hK.out _ _ hS (fun _ => ?_)
  simp only [Act.put, List.setIfInBounds_toArray, List.set_cons_zero, List.set_cons_succ]
  clear hK K
  refine take_lawH 11 (some 4) ((.slice (some ⟨d, n * S, none⟩) S (N * (P * S) - n * S))) rfl rfl (by kernel_rfl) (by kernel_rfl) (by kernel_rfl) (fun _ _ _ h => h) (Or.inl ⟨by rfl, fun w' hw' => by rfl⟩) hS ?_
  simp only [Act.put, List.setIfInBounds_toArray, List.set_cons_zero, List.set_cons_succ]
  refine take_lawH 12 (some 5) (.int .i64 0) rfl rfl (by kernel_rfl) (by kernel_rfl) (by kernel_rfl) (fun _ _ _ h => h) (Or.inl ⟨by rfl, fun w' hw' => by rfl⟩) hS ?_
  simp only [Act.put, List.setIfInBounds_toArray, List.set_cons_zero, List.set_cons_succ]
  refine wpAnyH_done (by kernel_rfl) ?_ _
  have BB : Hid (Below w.heap.size w y3) := BB.out.trans (hS.mono BB.out.size)
  clear hS
  go_wp2
  go_ret2
  exact ⟨rfl, BB.out⟩
end
end Go.Proofs.Ytnklbmeadjgehaa.na
