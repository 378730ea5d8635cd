/- P11.1: is any geometry right; what it has; of others nothing; the program answers at all. -/
import Derived.Test.YtpdmcpmkhofhdaaGRight
import Derived.Test.YtpdmcpmkhofhdaaGAwk
import Derived.Test.YtpdmcpmkhofhdaaGOpen
namespace Go.Proofs.Ytpdmcpmkhofhdaa.geometryChecks
open Go.ChangeShapes Go.WideShapes Go.ChangeAt Go.RowKit

open Go.Proofs.Ytpdmcpmkhofhdaa.ge

theorem wrap_w (x : Int) : IntKind.i64.wrap x = wrap64 x := by rw [IntKind.wrap_i64]; unfold wrap64; rfl

set_option maxHeartbeats 4000000 in
theorem walk_no (g : List Int) (w : World) (hl : g.length = 6) (h : ¬ Rt g) :
    Calls Try.prog 3 #[.agg (ints .i64 g)] w fun e w' => e = .returned (.bool true) ∧ Below w.heap.size w w' := by
  have SR : Hid (∀ w, Calls Try.prog 8 #[.agg (ints .i64 g)] w fun x w' => x = .returned (.bool false) ∧ Below w.heap.size w w') := right_no g hl h
  have T9 : Hid (∀ w, Calls Try.prog 9 #[.agg (ints .i64 g)] w fun x w' => x = .returned (.int .i64 (2)) ∧ Below w.heap.size w w') := check_no g hl h
  have T10 : Hid (∀ w, Calls Try.prog 10 #[.agg (ints .i64 g)] w fun x w' => x = .returned (.int .i64 (0)) ∧ Below w.heap.size w w') := data_no g hl h
  have T11 : Hid (∀ w, Calls Try.prog 11 #[.agg (ints .i64 g)] w fun x w' => x = .returned (.int .i64 (0)) ∧ Below w.heap.size w w') := unit_no g hl h
  have T12 : Hid (∀ w, Calls Try.prog 12 #[.agg (ints .i64 g)] w fun x w' => x = .returned (.int .i64 (0)) ∧ Below w.heap.size w w') := psize_no g hl h
  have T13 : Hid (∀ w, Calls Try.prog 13 #[.agg (ints .i64 g)] w fun x w' => x = .returned (.int .i64 (0)) ∧ Below w.heap.size w w') := chunks_no g hl h
  have T14 : Hid (∀ w, Calls Try.prog 14 #[.agg (ints .i64 g)] w fun x w' => x = .returned (.int .i64 (0)) ∧ Below w.heap.size w w') := bound_no g hl h
  have T15 : Hid (∀ w, Calls Try.prog 15 #[] w fun x w' => x = .returned (.bool true) ∧ Below w.heap.size w w') := awake_any
  have t0 : (0 : Nat) = 0 := rfl
  clear h
  go_enter Try.func3, Try.ntmps3
  go_wp2_with (first
    | (have q1 := t1; go_at_call 8; refine (SR.out _).mono ?_; rintro e w2 ⟨rfl, B2⟩; have HX : Hid (Ar w2 w.heap.size 0 .i64 g) := HX.out.below B2 (HX.out.lt (by omega)); have BB : Hid (Below w.heap.size w w2) := BB.out.trans (B2.mono BB.out.size); clear B2 t1)
    | (have q9 := HX; refine load_lawS _ (by rfl) _ _ rfl (load_geo HX.out hl) ?_)
    | (have q0 := t0; refine box_lawF _ rfl (.tmp 0) 23 rfl .i64 g rfl ?_; intro w1 X1 B1 L1; have HX : Hid (Ar w1 w.heap.size 0 .i64 g) := X1; have BB : Hid (Below w.heap.size w w1) := B1; have t1 : (0 : Nat) = 0 := rfl; clear X1 t0 B1))
  have S9 : Hid (∀ w', Below w2.heap.size w2 w' → Calls Try.prog 9 #[.agg (ints .i64 g)] w' fun x w'' => x = .returned (.int .i64 2) ∧ Below w2.heap.size w2 w'') := call_class T9.out w2
  have S10 : Hid (∀ w', Below w2.heap.size w2 w' → Calls Try.prog 10 #[.agg (ints .i64 g)] w' fun x w'' => x = .returned (.int .i64 0) ∧ Below w2.heap.size w2 w'') := call_class T10.out w2
  have S11 : Hid (∀ w', Below w2.heap.size w2 w' → Calls Try.prog 11 #[.agg (ints .i64 g)] w' fun x w'' => x = .returned (.int .i64 0) ∧ Below w2.heap.size w2 w'') := call_class T11.out w2
  have S12 : Hid (∀ w', Below w2.heap.size w2 w' → Calls Try.prog 12 #[.agg (ints .i64 g)] w' fun x w'' => x = .returned (.int .i64 0) ∧ Below w2.heap.size w2 w'') := call_class T12.out w2
  have S13 : Hid (∀ w', Below w2.heap.size w2 w' → Calls Try.prog 13 #[.agg (ints .i64 g)] w' fun x w'' => x = .returned (.int .i64 0) ∧ Below w2.heap.size w2 w'') := call_class T13.out w2
  have S14 : Hid (∀ w', Below w2.heap.size w2 w' → Calls Try.prog 14 #[.agg (ints .i64 g)] w' fun x w'' => x = .returned (.int .i64 0) ∧ Below w2.heap.size w2 w'') := call_class T14.out w2
  have S15 : Hid (∀ w', Below w2.heap.size w2 w' → Calls Try.prog 15 #[] w' fun x w'' => x = .returned (.bool true) ∧ Below w2.heap.size w2 w'') := call_class T15.out w2
  have GC := Hid.mk' (geo_class HX.out hl)
  refine region_quietC (C := fun w' => Below w2.heap.size w2 w') (by kernel_rfl) (by kernel_rfl) (Below.refl _ _).drew ?_
  refine wpQuiet_step (fun K hK => ?_)
  refine q_loadS (by rfl) (some 6) rfl (.tmp 1) 23 rfl (.pointer (some ⟨w.heap.size, 0, none⟩)) (.agg (ints .i64 g)) rfl (fun w' h => (GC.out w' h).2.2.2.2.2.2) (hK _ ?_)
  simp only [Act.put, List.setIfInBounds_toArray, List.set_cons_zero, List.set_cons_succ]
  clear hK K
  refine wpQuiet_step (fun K hK => ?_)
  refine q_call (by rfl) (some 7) rfl 9 #[.tmp 6] #[23] rfl (fun q w' => by rfl) #[.agg (ints .i64 g)] (by simp only [List.map_toArray, List.map_cons, List.map_nil]; rfl) (.int .i64 2) S9.out (hK _ ?_)
  simp only [Act.put, List.setIfInBounds_toArray, List.set_cons_zero, List.set_cons_succ]
  clear hK K
  refine wpQuiet_step (fun K hK => ?_)
  refine q_val (by rfl) (some 8) rfl (.bool true) (fun w' _ => by go_simp) (hK _ ?_)
  simp only [Act.put, List.setIfInBounds_toArray, List.set_cons_zero, List.set_cons_succ]
  clear hK K
  refine wpQuiet_step (fun K hK => ?_)
  refine q_val (by rfl) (some 9) rfl (.bool true) (fun w' _ => by rfl) (hK _ ?_)
  simp only [Act.put, List.setIfInBounds_toArray, List.set_cons_zero, List.set_cons_succ]
  clear hK K
  refine wpQuiet_step (fun K hK => ?_)
  refine q_loadS (by rfl) (some 10) rfl (.tmp 1) 23 rfl (.pointer (some ⟨w.heap.size, 0, none⟩)) (.agg (ints .i64 g)) rfl (fun w' h => (GC.out w' h).2.2.2.2.2.2) (hK _ ?_)
  simp only [Act.put, List.setIfInBounds_toArray, List.set_cons_zero, List.set_cons_succ]
  clear hK K
  refine wpQuiet_step (fun K hK => ?_)
  refine q_call (by rfl) (some 11) rfl 10 #[.tmp 10] #[23] rfl (fun q w' => by rfl) #[.agg (ints .i64 g)] (by simp only [List.map_toArray, List.map_cons, List.map_nil]; rfl) (.int .i64 0) S10.out (hK _ ?_)
  simp only [Act.put, List.setIfInBounds_toArray, List.set_cons_zero, List.set_cons_succ]
  clear hK K
  refine wpQuiet_step (fun K hK => ?_)
  refine q_loadS (by rfl) (some 12) rfl (.tmp 1) 23 rfl (.pointer (some ⟨w.heap.size, 0, none⟩)) (.agg (ints .i64 g)) rfl (fun w' h => (GC.out w' h).2.2.2.2.2.2) (hK _ ?_)
  simp only [Act.put, List.setIfInBounds_toArray, List.set_cons_zero, List.set_cons_succ]
  clear hK K
  refine wpQuiet_step (fun K hK => ?_)
  refine q_call (by rfl) (some 13) rfl 11 #[.tmp 12] #[23] rfl (fun q w' => by rfl) #[.agg (ints .i64 g)] (by simp only [List.map_toArray, List.map_cons, List.map_nil]; rfl) (.int .i64 0) S11.out (hK _ ?_)
  simp only [Act.put, List.setIfInBounds_toArray, List.set_cons_zero, List.set_cons_succ]
  clear hK K
  refine wpQuiet_step (fun K hK => ?_)
  refine q_val (by rfl) (some 14) rfl (.int .i64 0) (fun w' _ => by go_simp; rfl) (hK _ ?_)
  simp only [Act.put, List.setIfInBounds_toArray, List.set_cons_zero, List.set_cons_succ]
  clear hK K
  refine wpQuiet_step (fun K hK => ?_)
  refine q_loadS (by rfl) (some 15) rfl (.tmp 1) 23 rfl (.pointer (some ⟨w.heap.size, 0, none⟩)) (.agg (ints .i64 g)) rfl (fun w' h => (GC.out w' h).2.2.2.2.2.2) (hK _ ?_)
  simp only [Act.put, List.setIfInBounds_toArray, List.set_cons_zero, List.set_cons_succ]
  clear hK K
  refine wpQuiet_step (fun K hK => ?_)
  refine q_call (by rfl) (some 16) rfl 12 #[.tmp 15] #[23] rfl (fun q w' => by rfl) #[.agg (ints .i64 g)] (by simp only [List.map_toArray, List.map_cons, List.map_nil]; rfl) (.int .i64 0) S12.out (hK _ ?_)
  simp only [Act.put, List.setIfInBounds_toArray, List.set_cons_zero, List.set_cons_succ]
  clear hK K
  refine wpQuiet_step (fun K hK => ?_)
  refine q_val (by rfl) (some 17) rfl (.int .i64 0) (fun w' _ => by go_simp; rfl) (hK _ ?_)
  simp only [Act.put, List.setIfInBounds_toArray, List.set_cons_zero, List.set_cons_succ]
  clear hK K
  refine wpQuiet_step (fun K hK => ?_)
  refine q_loadS (by rfl) (some 18) rfl (.tmp 1) 23 rfl (.pointer (some ⟨w.heap.size, 0, none⟩)) (.agg (ints .i64 g)) rfl (fun w' h => (GC.out w' h).2.2.2.2.2.2) (hK _ ?_)
  simp only [Act.put, List.setIfInBounds_toArray, List.set_cons_zero, List.set_cons_succ]
  clear hK K
  refine wpQuiet_step (fun K hK => ?_)
  refine q_call (by rfl) (some 19) rfl 13 #[.tmp 18] #[23] rfl (fun q w' => by rfl) #[.agg (ints .i64 g)] (by simp only [List.map_toArray, List.map_cons, List.map_nil]; rfl) (.int .i64 0) S13.out (hK _ ?_)
  simp only [Act.put, List.setIfInBounds_toArray, List.set_cons_zero, List.set_cons_succ]
  clear hK K
  refine wpQuiet_step (fun K hK => ?_)
  refine q_val (by rfl) (some 20) rfl (.int .i64 0) (fun w' _ => by go_simp; rfl) (hK _ ?_)
  simp only [Act.put, List.setIfInBounds_toArray, List.set_cons_zero, List.set_cons_succ]
  clear hK K
  refine wpQuiet_step (fun K hK => ?_)
  refine q_loadS (by rfl) (some 21) rfl (.tmp 1) 23 rfl (.pointer (some ⟨w.heap.size, 0, none⟩)) (.agg (ints .i64 g)) rfl (fun w' h => (GC.out w' h).2.2.2.2.2.2) (hK _ ?_)
  simp only [Act.put, List.setIfInBounds_toArray, List.set_cons_zero, List.set_cons_succ]
  clear hK K
  refine wpQuiet_step (fun K hK => ?_)
  refine q_call (by rfl) (some 22) rfl 14 #[.tmp 21] #[23] rfl (fun q w' => by rfl) #[.agg (ints .i64 g)] (by simp only [List.map_toArray, List.map_cons, List.map_nil]; rfl) (.int .i64 0) S14.out (hK _ ?_)
  simp only [Act.put, List.setIfInBounds_toArray, List.set_cons_zero, List.set_cons_succ]
  clear hK K
  refine wpQuiet_step (fun K hK => ?_)
  refine q_val (by rfl) (some 23) rfl (.int .i64 0) (fun w' _ => by go_simp; rfl) (hK _ ?_)
  simp only [Act.put, List.setIfInBounds_toArray, List.set_cons_zero, List.set_cons_succ]
  clear hK K
  refine wpQuiet_step (fun K hK => ?_)
  refine q_val (by rfl) (some 24) rfl (.bool true) (fun w' _ => by go_simp) (hK _ ?_)
  simp only [Act.put, List.setIfInBounds_toArray, List.set_cons_zero, List.set_cons_succ]
  clear hK K
  refine wpQuiet_step (fun K hK => ?_)
  refine q_val (by rfl) (some 25) rfl (.bool true) (fun w' _ => by rfl) (hK _ ?_)
  simp only [Act.put, List.setIfInBounds_toArray, List.set_cons_zero, List.set_cons_succ]
  clear hK K
  refine wpQuiet_step (fun K hK => ?_)
  refine q_val (by rfl) (some 26) rfl (.bool true) (fun w' _ => by rfl) (hK _ ?_)
  simp only [Act.put, List.setIfInBounds_toArray, List.set_cons_zero, List.set_cons_succ]
  clear hK K
  refine wpQuiet_step (fun K hK => ?_)
  refine q_call (by rfl) (some 27) rfl 15 #[] #[] rfl (fun q w' => by rfl) #[] (by simp only [List.map_toArray, List.map_nil]) (.bool true) S15.out (hK _ ?_)
  simp only [Act.put, List.setIfInBounds_toArray, List.set_cons_zero, List.set_cons_succ]
  clear hK K
  refine wpQuiet_step (fun K hK => ?_)
  refine q_val (by rfl) (some 28) rfl (.bool true) (fun w' _ => by rfl) (hK _ ?_)
  simp only [Act.put, List.setIfInBounds_toArray, List.set_cons_zero, List.set_cons_succ]
  clear hK K
  refine wpQuiet_step (fun K hK => ?_)
  refine q_val (by rfl) (some 2) rfl (.bool true) (fun w' _ => by rfl) (hK _ ?_)
  simp only [Act.put, List.setIfInBounds_toArray, List.set_cons_zero, List.set_cons_succ]
  clear hK K
  refine wpQuiet_nil ?_
  intro w3 B3
  go_wp2
  go_ret
  exact ⟨rfl, BB.out.trans (B3.mono BB.out.size)⟩

set_option maxHeartbeats 4000000 in
theorem walk_yes (g : List Int) (w : World) (hl : g.length = 6) (h : Rt g) :
    Calls Try.prog 3 #[.agg (ints .i64 g)] w fun e w' => e = .returned (.bool true) ∧ Below w.heap.size w w' := by
  have SR : Hid (∀ w, Calls Try.prog 8 #[.agg (ints .i64 g)] w fun x w' => x = .returned (.bool true) ∧ Below w.heap.size w w') := right_yes g hl h
  have T9 : Hid (∀ w, Calls Try.prog 9 #[.agg (ints .i64 g)] w fun x w' => x = .returned (.int .i64 (0)) ∧ Below w.heap.size w w') := check_yes g hl h
  have T10 : Hid (∀ w, Calls Try.prog 10 #[.agg (ints .i64 g)] w fun x w' => x = .returned (.int .i64 (gb g 0 - 4)) ∧ Below w.heap.size w w') := data_yes g hl h
  have T11 : Hid (∀ w, Calls Try.prog 11 #[.agg (ints .i64 g)] w fun x w' => x = .returned (.int .i64 (gb g 1 - 1)) ∧ Below w.heap.size w w') := unit_yes g hl h
  have T12 : Hid (∀ w, Calls Try.prog 12 #[.agg (ints .i64 g)] w fun x w' => x = .returned (.int .i64 (gb g 2 + 88)) ∧ Below w.heap.size w w') := psize_yes g hl h
  have T13 : Hid (∀ w, Calls Try.prog 13 #[.agg (ints .i64 g)] w fun x w' => x = .returned (.int .i64 (rec g)) ∧ Below w.heap.size w w') := chunks_yes g hl h
  have T14 : Hid (∀ w, Calls Try.prog 14 #[.agg (ints .i64 g)] w fun x w' => x = .returned (.int .i64 (40 * gb g 0 * gb g 0 * gb g 1 * gb g 1)) ∧ Below w.heap.size w w') := bound_yes g hl h
  have T15 : Hid (∀ w, Calls Try.prog 15 #[] w fun x w' => x = .returned (.bool true) ∧ Below w.heap.size w w') := awake_any
  have T16 : Hid (∀ w, Calls Try.prog 16 #[.agg (ints .i64 g)] w fun x w' => x = .returned (.int .i64 (rec g)) ∧ Below w.heap.size w w') := rchunks_any g hl h.1
  have qw : wrap64 (wrap64 (wrap64 (wrap64 (40 * gb g 0) * gb g 0) * gb g 1) * gb g 1) = 40 * gb g 0 * gb g 0 * gb g 1 * gb g 1 := bound_wraps h
  have q0 : IntKind.i64.wrap (gb g 0 - 4) = gb g 0 - 4 := by obtain ⟨⟨h, -⟩, -⟩ := h; rw [IntKind.wrap_i64]; omega
  have q1 : IntKind.i64.wrap (gb g 1 - 1) = gb g 1 - 1 := by obtain ⟨⟨-, h, -⟩, -⟩ := h; rw [IntKind.wrap_i64]; omega
  have q2 : IntKind.i64.wrap (gb g 2 + 88) = gb g 2 + 88 := by obtain ⟨⟨-, -, h, -⟩, -⟩ := h; rw [IntKind.wrap_i64]; omega
  obtain ⟨y0, e0⟩ : ∃ y, y = gb g 0 - 4 := ⟨_, rfl⟩
  obtain ⟨y1, e1⟩ : ∃ y, y = gb g 1 - 1 := ⟨_, rfl⟩
  obtain ⟨y2, e2⟩ : ∃ y, y = gb g 2 + 88 := ⟨_, rfl⟩
  obtain ⟨y3, e3⟩ : ∃ y, y = 40 * gb g 0 * gb g 0 * gb g 1 * gb g 1 := ⟨_, rfl⟩
  obtain ⟨x1, d1⟩ : ∃ y, y = wrap64 (40 * gb g 0) := ⟨_, rfl⟩
  obtain ⟨x2, d2⟩ : ∃ y, y = wrap64 (x1 * gb g 0) := ⟨_, rfl⟩
  obtain ⟨x3, d3⟩ : ∃ y, y = wrap64 (x2 * gb g 1) := ⟨_, rfl⟩
  rw [← d1, ← d2, ← d3] at qw
  rw [← e0] at T10 q0
  rw [← e1] at T11 q1
  rw [← e2] at T12 q2
  rw [← e3] at T14 qw
  have p0 : IntKind.i64.wrap (gb g 0 - 4) = y0 := by rw [e0]; exact e0 ▸ q0
  have p1 : IntKind.i64.wrap (gb g 1 - 1) = y1 := by rw [e1]; exact e1 ▸ q1
  have p2 : IntKind.i64.wrap (gb g 2 + 88) = y2 := by rw [e2]; exact e2 ▸ q2
  clear e0 e1 e2 e3 q0 q1 q2
  generalize rec g = z at *
  have t0 : (0 : Nat) = 0 := rfl
  clear h
  go_enter Try.func3, Try.ntmps3
  go_wp2_with (first
    | (have q1 := t1; go_at_call 8; refine (SR.out _).mono ?_; rintro e w2 ⟨rfl, B2⟩; have HX : Hid (Ar w2 w.heap.size 0 .i64 g) := HX.out.below B2 (HX.out.lt (by omega)); have BB : Hid (Below w.heap.size w w2) := BB.out.trans (B2.mono BB.out.size); clear B2 t1)
    | (have q9 := HX; refine load_lawS _ (by rfl) _ _ rfl (load_geo HX.out hl) ?_)
    | (have q0 := t0; refine box_lawF _ rfl (.tmp 0) 23 rfl .i64 g rfl ?_; intro w1 X1 B1 L1; have HX : Hid (Ar w1 w.heap.size 0 .i64 g) := X1; have BB : Hid (Below w.heap.size w w1) := B1; have t1 : (0 : Nat) = 0 := rfl; clear X1 t0 B1))
  have S9 : Hid (∀ w', Below w2.heap.size w2 w' → Calls Try.prog 9 #[.agg (ints .i64 g)] w' fun x w'' => x = .returned (.int .i64 0) ∧ Below w2.heap.size w2 w'') := call_class T9.out w2
  have S10 : Hid (∀ w', Below w2.heap.size w2 w' → Calls Try.prog 10 #[.agg (ints .i64 g)] w' fun x w'' => x = .returned (.int .i64 y0) ∧ Below w2.heap.size w2 w'') := call_class T10.out w2
  have S11 : Hid (∀ w', Below w2.heap.size w2 w' → Calls Try.prog 11 #[.agg (ints .i64 g)] w' fun x w'' => x = .returned (.int .i64 y1) ∧ Below w2.heap.size w2 w'') := call_class T11.out w2
  have S12 : Hid (∀ w', Below w2.heap.size w2 w' → Calls Try.prog 12 #[.agg (ints .i64 g)] w' fun x w'' => x = .returned (.int .i64 y2) ∧ Below w2.heap.size w2 w'') := call_class T12.out w2
  have S13 : Hid (∀ w', Below w2.heap.size w2 w' → Calls Try.prog 13 #[.agg (ints .i64 g)] w' fun x w'' => x = .returned (.int .i64 z) ∧ Below w2.heap.size w2 w'') := call_class T13.out w2
  have S14 : Hid (∀ w', Below w2.heap.size w2 w' → Calls Try.prog 14 #[.agg (ints .i64 g)] w' fun x w'' => x = .returned (.int .i64 y3) ∧ Below w2.heap.size w2 w'') := call_class T14.out w2
  have S15 : Hid (∀ w', Below w2.heap.size w2 w' → Calls Try.prog 15 #[] w' fun x w'' => x = .returned (.bool true) ∧ Below w2.heap.size w2 w'') := call_class T15.out w2
  have S16 : Hid (∀ w', Below w2.heap.size w2 w' → Calls Try.prog 16 #[.agg (ints .i64 g)] w' fun x w'' => x = .returned (.int .i64 z) ∧ Below w2.heap.size w2 w'') := call_class T16.out w2
  have GC := Hid.mk' (geo_class HX.out hl)
  refine region_quietC (C := fun w' => Below w2.heap.size w2 w') (by kernel_rfl) (by kernel_rfl) (Below.refl _ _).drew ?_
  refine wpQuiet_step (fun K hK => ?_)
  refine q_loadS (by rfl) (some 29) rfl (.tmp 1) 23 rfl (.pointer (some ⟨w.heap.size, 0, none⟩)) (.agg (ints .i64 g)) rfl (fun w' h => (GC.out w' h).2.2.2.2.2.2) (hK _ ?_)
  simp only [Act.put, List.setIfInBounds_toArray, List.set_cons_zero, List.set_cons_succ]
  clear hK K
  refine wpQuiet_step (fun K hK => ?_)
  refine q_call (by rfl) (some 30) rfl 9 #[.tmp 29] #[23] rfl (fun q w' => by rfl) #[.agg (ints .i64 g)] (by simp only [List.map_toArray, List.map_cons, List.map_nil]; rfl) (.int .i64 0) S9.out (hK _ ?_)
  simp only [Act.put, List.setIfInBounds_toArray, List.set_cons_zero, List.set_cons_succ]
  clear hK K
  refine wpQuiet_step (fun K hK => ?_)
  refine q_val (by rfl) (some 31) rfl (.bool true) (fun w' _ => by go_simp) (hK _ ?_)
  simp only [Act.put, List.setIfInBounds_toArray, List.set_cons_zero, List.set_cons_succ]
  clear hK K
  refine wpQuiet_step (fun K hK => ?_)
  refine q_val (by rfl) (some 32) rfl (.bool true) (fun w' _ => by rfl) (hK _ ?_)
  simp only [Act.put, List.setIfInBounds_toArray, List.set_cons_zero, List.set_cons_succ]
  clear hK K
  refine wpQuiet_step (fun K hK => ?_)
  refine q_loadS (by rfl) (some 33) rfl (.tmp 1) 23 rfl (.pointer (some ⟨w.heap.size, 0, none⟩)) (.agg (ints .i64 g)) rfl (fun w' h => (GC.out w' h).2.2.2.2.2.2) (hK _ ?_)
  simp only [Act.put, List.setIfInBounds_toArray, List.set_cons_zero, List.set_cons_succ]
  clear hK K
  refine wpQuiet_step (fun K hK => ?_)
  refine q_call (by rfl) (some 34) rfl 10 #[.tmp 33] #[23] rfl (fun q w' => by rfl) #[.agg (ints .i64 g)] (by simp only [List.map_toArray, List.map_cons, List.map_nil]; rfl) (.int .i64 y0) S10.out (hK _ ?_)
  simp only [Act.put, List.setIfInBounds_toArray, List.set_cons_zero, List.set_cons_succ]
  clear hK K
  refine wpQuiet_step (fun K hK => ?_)
  refine q_val (by rfl) (some 35) rfl (.pointer (some ⟨w.heap.size, 0, none⟩)) (fun w' _ => by go_simp) (hK _ ?_)
  simp only [Act.put, List.setIfInBounds_toArray, List.set_cons_zero, List.set_cons_succ]
  clear hK K
  refine wpQuiet_step (fun K hK => ?_)
  refine q_get (by rfl) (some 36) rfl (.tmp 35) 3 rfl .i64 (gb g 0) w.heap.size (0) rfl Try.underlying3 (fun w' h => (GC.out w' h).1) (hK _ ?_)
  simp only [Act.put, List.setIfInBounds_toArray, List.set_cons_zero, List.set_cons_succ]
  clear hK K
  refine wpQuiet_step (fun K hK => ?_)
  refine q_val (by rfl) (some 37) rfl (.int .i64 y0) (fun w' _ => by go_simp) (hK _ ?_)
  simp only [Act.put, List.setIfInBounds_toArray, List.set_cons_zero, List.set_cons_succ]
  clear hK K
  refine wpQuiet_step (fun K hK => ?_)
  refine q_val (by rfl) (some 38) rfl (.bool true) (fun w' _ => by go_simp) (hK _ ?_)
  simp only [Act.put, List.setIfInBounds_toArray, List.set_cons_zero, List.set_cons_succ]
  clear hK K
  refine wpQuiet_step (fun K hK => ?_)
  refine q_val (by rfl) (some 39) rfl (.bool true) (fun w' _ => by rfl) (hK _ ?_)
  simp only [Act.put, List.setIfInBounds_toArray, List.set_cons_zero, List.set_cons_succ]
  clear hK K
  refine wpQuiet_step (fun K hK => ?_)
  refine q_val (by rfl) (some 40) rfl (.bool true) (fun w' _ => by rfl) (hK _ ?_)
  simp only [Act.put, List.setIfInBounds_toArray, List.set_cons_zero, List.set_cons_succ]
  clear hK K
  refine wpQuiet_step (fun K hK => ?_)
  refine q_loadS (by rfl) (some 41) rfl (.tmp 1) 23 rfl (.pointer (some ⟨w.heap.size, 0, none⟩)) (.agg (ints .i64 g)) rfl (fun w' h => (GC.out w' h).2.2.2.2.2.2) (hK _ ?_)
  simp only [Act.put, List.setIfInBounds_toArray, List.set_cons_zero, List.set_cons_succ]
  clear hK K
  refine wpQuiet_step (fun K hK => ?_)
  refine q_call (by rfl) (some 42) rfl 11 #[.tmp 41] #[23] rfl (fun q w' => by rfl) #[.agg (ints .i64 g)] (by simp only [List.map_toArray, List.map_cons, List.map_nil]; rfl) (.int .i64 y1) S11.out (hK _ ?_)
  simp only [Act.put, List.setIfInBounds_toArray, List.set_cons_zero, List.set_cons_succ]
  clear hK K
  refine wpQuiet_step (fun K hK => ?_)
  refine q_val (by rfl) (some 43) rfl (.pointer (some ⟨w.heap.size, 1, none⟩)) (fun w' _ => by go_simp) (hK _ ?_)
  simp only [Act.put, List.setIfInBounds_toArray, List.set_cons_zero, List.set_cons_succ]
  clear hK K
  refine wpQuiet_step (fun K hK => ?_)
  refine q_get (by rfl) (some 44) rfl (.tmp 43) 3 rfl .i64 (gb g 1) w.heap.size (1) rfl Try.underlying3 (fun w' h => (GC.out w' h).2.1) (hK _ ?_)
  simp only [Act.put, List.setIfInBounds_toArray, List.set_cons_zero, List.set_cons_succ]
  clear hK K
  refine wpQuiet_step (fun K hK => ?_)
  refine q_val (by rfl) (some 45) rfl (.int .i64 y1) (fun w' _ => by go_simp) (hK _ ?_)
  simp only [Act.put, List.setIfInBounds_toArray, List.set_cons_zero, List.set_cons_succ]
  clear hK K
  refine wpQuiet_step (fun K hK => ?_)
  refine q_val (by rfl) (some 46) rfl (.bool true) (fun w' _ => by go_simp) (hK _ ?_)
  simp only [Act.put, List.setIfInBounds_toArray, List.set_cons_zero, List.set_cons_succ]
  clear hK K
  refine wpQuiet_step (fun K hK => ?_)
  refine q_val (by rfl) (some 47) rfl (.bool true) (fun w' _ => by rfl) (hK _ ?_)
  simp only [Act.put, List.setIfInBounds_toArray, List.set_cons_zero, List.set_cons_succ]
  clear hK K
  refine wpQuiet_step (fun K hK => ?_)
  refine q_val (by rfl) (some 48) rfl (.bool true) (fun w' _ => by rfl) (hK _ ?_)
  simp only [Act.put, List.setIfInBounds_toArray, List.set_cons_zero, List.set_cons_succ]
  clear hK K
  refine wpQuiet_step (fun K hK => ?_)
  refine q_loadS (by rfl) (some 49) rfl (.tmp 1) 23 rfl (.pointer (some ⟨w.heap.size, 0, none⟩)) (.agg (ints .i64 g)) rfl (fun w' h => (GC.out w' h).2.2.2.2.2.2) (hK _ ?_)
  simp only [Act.put, List.setIfInBounds_toArray, List.set_cons_zero, List.set_cons_succ]
  clear hK K
  refine wpQuiet_step (fun K hK => ?_)
  refine q_call (by rfl) (some 50) rfl 12 #[.tmp 49] #[23] rfl (fun q w' => by rfl) #[.agg (ints .i64 g)] (by simp only [List.map_toArray, List.map_cons, List.map_nil]; rfl) (.int .i64 y2) S12.out (hK _ ?_)
  simp only [Act.put, List.setIfInBounds_toArray, List.set_cons_zero, List.set_cons_succ]
  clear hK K
  refine wpQuiet_step (fun K hK => ?_)
  refine q_val (by rfl) (some 51) rfl (.pointer (some ⟨w.heap.size, 2, none⟩)) (fun w' _ => by go_simp) (hK _ ?_)
  simp only [Act.put, List.setIfInBounds_toArray, List.set_cons_zero, List.set_cons_succ]
  clear hK K
  refine wpQuiet_step (fun K hK => ?_)
  refine q_get (by rfl) (some 52) rfl (.tmp 51) 3 rfl .i64 (gb g 2) w.heap.size (2) rfl Try.underlying3 (fun w' h => (GC.out w' h).2.2.1) (hK _ ?_)
  simp only [Act.put, List.setIfInBounds_toArray, List.set_cons_zero, List.set_cons_succ]
  clear hK K
  refine wpQuiet_step (fun K hK => ?_)
  refine q_val (by rfl) (some 53) rfl (.int .i64 y2) (fun w' _ => by go_simp) (hK _ ?_)
  simp only [Act.put, List.setIfInBounds_toArray, List.set_cons_zero, List.set_cons_succ]
  clear hK K
  refine wpQuiet_step (fun K hK => ?_)
  refine q_val (by rfl) (some 54) rfl (.bool true) (fun w' _ => by go_simp) (hK _ ?_)
  simp only [Act.put, List.setIfInBounds_toArray, List.set_cons_zero, List.set_cons_succ]
  clear hK K
  refine wpQuiet_step (fun K hK => ?_)
  refine q_val (by rfl) (some 55) rfl (.bool true) (fun w' _ => by rfl) (hK _ ?_)
  simp only [Act.put, List.setIfInBounds_toArray, List.set_cons_zero, List.set_cons_succ]
  clear hK K
  refine wpQuiet_step (fun K hK => ?_)
  refine q_val (by rfl) (some 56) rfl (.bool true) (fun w' _ => by rfl) (hK _ ?_)
  simp only [Act.put, List.setIfInBounds_toArray, List.set_cons_zero, List.set_cons_succ]
  clear hK K
  refine wpQuiet_step (fun K hK => ?_)
  refine q_loadS (by rfl) (some 57) rfl (.tmp 1) 23 rfl (.pointer (some ⟨w.heap.size, 0, none⟩)) (.agg (ints .i64 g)) rfl (fun w' h => (GC.out w' h).2.2.2.2.2.2) (hK _ ?_)
  simp only [Act.put, List.setIfInBounds_toArray, List.set_cons_zero, List.set_cons_succ]
  clear hK K
  refine wpQuiet_step (fun K hK => ?_)
  refine q_call (by rfl) (some 58) rfl 13 #[.tmp 57] #[23] rfl (fun q w' => by rfl) #[.agg (ints .i64 g)] (by simp only [List.map_toArray, List.map_cons, List.map_nil]; rfl) (.int .i64 z) S13.out (hK _ ?_)
  simp only [Act.put, List.setIfInBounds_toArray, List.set_cons_zero, List.set_cons_succ]
  clear hK K
  refine wpQuiet_step (fun K hK => ?_)
  refine q_loadS (by rfl) (some 59) rfl (.tmp 1) 23 rfl (.pointer (some ⟨w.heap.size, 0, none⟩)) (.agg (ints .i64 g)) rfl (fun w' h => (GC.out w' h).2.2.2.2.2.2) (hK _ ?_)
  simp only [Act.put, List.setIfInBounds_toArray, List.set_cons_zero, List.set_cons_succ]
  clear hK K
  refine wpQuiet_step (fun K hK => ?_)
  refine q_call (by rfl) (some 60) rfl 16 #[.tmp 59] #[23] rfl (fun q w' => by rfl) #[.agg (ints .i64 g)] (by simp only [List.map_toArray, List.map_cons, List.map_nil]; rfl) (.int .i64 z) S16.out (hK _ ?_)
  simp only [Act.put, List.setIfInBounds_toArray, List.set_cons_zero, List.set_cons_succ]
  clear hK K
  refine wpQuiet_step (fun K hK => ?_)
  refine q_val (by rfl) (some 61) rfl (.bool true) (fun w' _ => by go_simp) (hK _ ?_)
  simp only [Act.put, List.setIfInBounds_toArray, List.set_cons_zero, List.set_cons_succ]
  clear hK K
  refine wpQuiet_step (fun K hK => ?_)
  refine q_val (by rfl) (some 62) rfl (.bool true) (fun w' _ => by rfl) (hK _ ?_)
  simp only [Act.put, List.setIfInBounds_toArray, List.set_cons_zero, List.set_cons_succ]
  clear hK K
  refine wpQuiet_step (fun K hK => ?_)
  refine q_val (by rfl) (some 63) rfl (.bool true) (fun w' _ => by rfl) (hK _ ?_)
  simp only [Act.put, List.setIfInBounds_toArray, List.set_cons_zero, List.set_cons_succ]
  clear hK K
  refine wpQuiet_step (fun K hK => ?_)
  refine q_loadS (by rfl) (some 64) rfl (.tmp 1) 23 rfl (.pointer (some ⟨w.heap.size, 0, none⟩)) (.agg (ints .i64 g)) rfl (fun w' h => (GC.out w' h).2.2.2.2.2.2) (hK _ ?_)
  simp only [Act.put, List.setIfInBounds_toArray, List.set_cons_zero, List.set_cons_succ]
  clear hK K
  refine wpQuiet_step (fun K hK => ?_)
  refine q_call (by rfl) (some 65) rfl 14 #[.tmp 64] #[23] rfl (fun q w' => by rfl) #[.agg (ints .i64 g)] (by simp only [List.map_toArray, List.map_cons, List.map_nil]; rfl) (.int .i64 y3) S14.out (hK _ ?_)
  simp only [Act.put, List.setIfInBounds_toArray, List.set_cons_zero, List.set_cons_succ]
  clear hK K
  refine wpQuiet_step (fun K hK => ?_)
  refine q_val (by rfl) (some 66) rfl (.pointer (some ⟨w.heap.size, 0, none⟩)) (fun w' _ => by go_simp) (hK _ ?_)
  simp only [Act.put, List.setIfInBounds_toArray, List.set_cons_zero, List.set_cons_succ]
  clear hK K
  refine wpQuiet_step (fun K hK => ?_)
  refine q_get (by rfl) (some 67) rfl (.tmp 66) 3 rfl .i64 (gb g 0) w.heap.size (0) rfl Try.underlying3 (fun w' h => (GC.out w' h).1) (hK _ ?_)
  simp only [Act.put, List.setIfInBounds_toArray, List.set_cons_zero, List.set_cons_succ]
  clear hK K
  refine wpQuiet_step (fun K hK => ?_)
  refine q_val (by rfl) (some 68) rfl (.int .i64 x1) (fun w' _ => by rw [d1]; go_simp; exact wrap_w _) (hK _ ?_)
  simp only [Act.put, List.setIfInBounds_toArray, List.set_cons_zero, List.set_cons_succ]
  clear hK K
  refine wpQuiet_step (fun K hK => ?_)
  refine q_val (by rfl) (some 69) rfl (.pointer (some ⟨w.heap.size, 0, none⟩)) (fun w' _ => by go_simp) (hK _ ?_)
  simp only [Act.put, List.setIfInBounds_toArray, List.set_cons_zero, List.set_cons_succ]
  clear hK K
  refine wpQuiet_step (fun K hK => ?_)
  refine q_get (by rfl) (some 70) rfl (.tmp 69) 3 rfl .i64 (gb g 0) w.heap.size (0) rfl Try.underlying3 (fun w' h => (GC.out w' h).1) (hK _ ?_)
  simp only [Act.put, List.setIfInBounds_toArray, List.set_cons_zero, List.set_cons_succ]
  clear hK K
  refine wpQuiet_step (fun K hK => ?_)
  refine q_val (by rfl) (some 71) rfl (.int .i64 x2) (fun w' _ => by rw [d2]; go_simp; exact wrap_w _) (hK _ ?_)
  simp only [Act.put, List.setIfInBounds_toArray, List.set_cons_zero, List.set_cons_succ]
  clear hK K
  refine wpQuiet_step (fun K hK => ?_)
  refine q_val (by rfl) (some 72) rfl (.pointer (some ⟨w.heap.size, 1, none⟩)) (fun w' _ => by go_simp) (hK _ ?_)
  simp only [Act.put, List.setIfInBounds_toArray, List.set_cons_zero, List.set_cons_succ]
  clear hK K
  refine wpQuiet_step (fun K hK => ?_)
  refine q_get (by rfl) (some 73) rfl (.tmp 72) 3 rfl .i64 (gb g 1) w.heap.size (1) rfl Try.underlying3 (fun w' h => (GC.out w' h).2.1) (hK _ ?_)
  simp only [Act.put, List.setIfInBounds_toArray, List.set_cons_zero, List.set_cons_succ]
  clear hK K
  refine wpQuiet_step (fun K hK => ?_)
  refine q_val (by rfl) (some 74) rfl (.int .i64 x3) (fun w' _ => by rw [d3]; go_simp; exact wrap_w _) (hK _ ?_)
  simp only [Act.put, List.setIfInBounds_toArray, List.set_cons_zero, List.set_cons_succ]
  clear hK K
  refine wpQuiet_step (fun K hK => ?_)
  refine q_val (by rfl) (some 75) rfl (.pointer (some ⟨w.heap.size, 1, none⟩)) (fun w' _ => by go_simp) (hK _ ?_)
  simp only [Act.put, List.setIfInBounds_toArray, List.set_cons_zero, List.set_cons_succ]
  clear hK K
  refine wpQuiet_step (fun K hK => ?_)
  refine q_get (by rfl) (some 76) rfl (.tmp 75) 3 rfl .i64 (gb g 1) w.heap.size (1) rfl Try.underlying3 (fun w' h => (GC.out w' h).2.1) (hK _ ?_)
  simp only [Act.put, List.setIfInBounds_toArray, List.set_cons_zero, List.set_cons_succ]
  clear hK K
  refine wpQuiet_step (fun K hK => ?_)
  refine q_val (by rfl) (some 77) rfl (.int .i64 y3) (fun w' _ => by rw [← qw]; go_simp; exact wrap_w _) (hK _ ?_)
  simp only [Act.put, List.setIfInBounds_toArray, List.set_cons_zero, List.set_cons_succ]
  clear hK K
  refine wpQuiet_step (fun K hK => ?_)
  refine q_val (by rfl) (some 78) rfl (.bool true) (fun w' _ => by go_simp) (hK _ ?_)
  simp only [Act.put, List.setIfInBounds_toArray, List.set_cons_zero, List.set_cons_succ]
  clear hK K
  refine wpQuiet_step (fun K hK => ?_)
  refine q_val (by rfl) (some 79) rfl (.bool true) (fun w' _ => by rfl) (hK _ ?_)
  simp only [Act.put, List.setIfInBounds_toArray, List.set_cons_zero, List.set_cons_succ]
  clear hK K
  refine wpQuiet_step (fun K hK => ?_)
  refine q_val (by rfl) (some 80) rfl (.bool true) (fun w' _ => by rfl) (hK _ ?_)
  simp only [Act.put, List.setIfInBounds_toArray, List.set_cons_zero, List.set_cons_succ]
  clear hK K
  refine wpQuiet_step (fun K hK => ?_)
  refine q_call (by rfl) (some 81) rfl 15 #[] #[] rfl (fun q w' => by rfl) #[] (by simp only [List.map_toArray, List.map_nil]) (.bool true) S15.out (hK _ ?_)
  simp only [Act.put, List.setIfInBounds_toArray, List.set_cons_zero, List.set_cons_succ]
  clear hK K
  refine wpQuiet_step (fun K hK => ?_)
  refine q_val (by rfl) (some 82) rfl (.bool true) (fun w' _ => by rfl) (hK _ ?_)
  simp only [Act.put, List.setIfInBounds_toArray, List.set_cons_zero, List.set_cons_succ]
  clear hK K
  refine wpQuiet_step (fun K hK => ?_)
  refine q_val (by rfl) (some 2) rfl (.bool true) (fun w' _ => by rfl) (hK _ ?_)
  simp only [Act.put, List.setIfInBounds_toArray, List.set_cons_zero, List.set_cons_succ]
  clear hK K
  refine wpQuiet_nil ?_
  intro w3 B3
  go_wp2
  go_ret
  exact ⟨rfl, BB.out.trans (B3.mono BB.out.size)⟩

theorem walk (g : List Int) (w : World) (hl : g.length = 6) : Calls Try.prog 3 #[.agg (ints .i64 g)] w fun e w' => e = .returned (.bool true) ∧ Below w.heap.size w w' := by
  by_cases h : Rt g
  · exact walk_yes g w hl h
  · exact walk_no g w hl h

theorem params : ∀ t ∈ Try.f3.params.toList, Try.prog.readableRec t = true ∧ t < Try.prog.types.size := by
  rw [Try.params3]
  intro t ht
  simp at ht
  subst ht
  exact ⟨by kernel_rfl, of_decide_eq_true (by kernel_rfl)⟩

theorem contract (H : Type) (enc : TypeId × Value → H) (W : World) (base : Nat) (args : Array Value) (ds gs : List (DataW H)) (before : List MemPlace)
    (hval : ∀ (j : Nat) t v, Try.f3.params[j]? = some t → args[j]? = some v → Value.okWide Try.prog W .any base t v)
    (hW : DataW.Whole enc Try.prog Try.f3.params.toList Rows.geometryChecksSpec.vars false W args.toList ds gs before) :
    Calls Try.prog 3 args W fun e W' => ∃ v, e = .returned v ∧ Rows.geometryChecksSpec.post enc Try.prog Try.f3 false true false false W args v W' := by
  have hW' := hW
  obtain ⟨p, q, hA0, hV, rfl, hfz, hnd⟩ := hW
  have hA : DataW.TrodAll enc Try.prog W 0 (fun _ => true) true Try.f3.params.toList args.toList ds p := hA0
  rw [Try.params3] at hA hval
  obtain ⟨v0, d0, rfl, rfl, h0⟩ := trodAll_one hA
  obtain ⟨rfl, rfl⟩ := trodVars_none hV
  obtain ⟨g0, rfl, n0⟩ := geo_open (hval 0 23 v0 rfl rfl) h0
  clear hA0
  refine (walk g0 W n0).mono fun e W' ⟨he, hg⟩ => ?_
  subst he
  exact ⟨_, rfl, post_law rfl (by kernel_rfl) params rfl rfl rfl hW' hg⟩

theorem laid_met (os : Os) : laidMet Try.prog Rows.geometryChecksRow.laid ((World.holding Try.prog os ⟨#[], #[], []⟩).forCall (fun _ _ => 0) ⟨#[], #[.agg #[.int .i64 0, .int .i64 0, .int .i64 0, .int .i64 0, .int .i64 0, .int .i64 0]], []⟩).memory :=
  laidMet_of_run' 8 (by kernel_rfl) (by kernel_rfl)
theorem reads (os : Os) {H : Type} (enc : TypeId × Value → H) : ∃ places, DataW.whole enc Try.prog ((World.holding Try.prog os ⟨#[], #[], []⟩).forCall (fun _ _ => 0) ⟨#[], #[.agg #[.int .i64 0, .int .i64 0, .int .i64 0, .int .i64 0, .int .i64 0, .int .i64 0]], []⟩).memory Try.f3.params.toList Rows.geometryChecksSpec.vars false #[Value.agg #[.int .i64 0, .int .i64 0, .int .i64 0, .int .i64 0, .int .i64 0, .int .i64 0]].toList 8 = some ([.agg [.lit (.int .i64 0), .lit (.int .i64 0), .lit (.int .i64 0), .lit (.int .i64 0), .lit (.int .i64 0), .lit (.int .i64 0)]], [], places) :=
  ⟨[], by kernel_rfl⟩

set_option maxRecDepth 100000 in
theorem lifted (os : Os) (started : os.Started) (H : Type) (enc : TypeId × Value → H) (F : Stop.Interp) :
    ReturnsInHanded {} Try.checked os 3 .any ((OpenSpec.ofChange Rows.geometryChecksSpec).preRow enc Try.prog Try.f3 Rows.geometryChecksRow.domain false Rows.geometryChecksRow.laid) (((OpenSpec.ofChange Rows.geometryChecksSpec).at F).post enc Try.prog Try.f3 false true false false) := by
  obtain ⟨places, hx⟩ := reads os enc
  refine returnsInHanded_of_row (C := Try.checked) (s := OpenSpec.ofChange Rows.geometryChecksSpec) own started (by kernel_rfl) Try.func3
    (witness_row_at (enc := enc) (C := Try.checked) false (World.holding Try.prog os ⟨#[], #[], []⟩) #[.agg #[.int .i64 0, .int .i64 0, .int .i64 0, .int .i64 0, .int .i64 0, .int .i64 0]] rfl (by kernel_rfl) (by kernel_rfl) (by kernel_rfl)
      (OpenSpec.preRow_of_cond 8 hx (by kernel_rfl) (fun k hk => by cases hk) (by kernel_rfl) (laid_met os))) ?_
  intro W base args ds gs before hval hW _ _ _ _ _ _
  exact contract H enc W base args ds gs before hval hW

theorem said : Rows.GeometryChecksSaid :=
  OpenClaim.holds_of_cond 3 Try.f3 rfl rfl rfl rfl rfl rfl rfl ⟨rfl, rfl, rfl, rfl, rfl⟩ rfl rfl rfl rfl rfl (by kernel_rfl) Try.func3 (by kernel_rfl)
    (of_decide_eq_true (by kernel_rfl)) (by unfold Func.isWrapper; first | (rw [if_pos (by decide +kernel)]; kernel_rfl) | (rw [if_neg (by decide +kernel)]; exact ⟨rfl, rfl⟩))
    (fun os started H enc _ F => by rw [OpenClaim.pre_eq_preRow]; exact lifted os started H enc F)
end Go.Proofs.Ytpdmcpmkhofhdaa.geometryChecks

namespace Go.Proofs.Ytpdmcpmkhofhdaa
theorem geometryChecks_said : Rows.GeometryChecksSaid := geometryChecks.said
#print axioms geometryChecks_said
end Go.Proofs.Ytpdmcpmkhofhdaa
