/- That the statements' own question 'does the program answer at all?' is answered by yes; a page that was made is not blank. No claim of its own. -/
import Derived.Test.YtpmakkjcpoillaaDoorPRrd
import Derived.Test.YtpmakkjcpoillaaDoorPOpn
namespace Go.Proofs.YtpmakkjcpoillaaDoor.pa
open Go.RowKit Go.Proofs.YtpmakkjcpoillaaDoor.fa Go.Proofs.YtpmakkjcpoillaaDoor.he
set_option maxRecDepth 20000

theorem blank_no (w : World) (v : Value) (xs : List Int) (h : Byt w v xs) (hn : decide (xs = List.replicate xs.length 255) = false) : Calls Tryd.prog 17 #[v] w fun e w' => e = .returned (.bool false) ∧ Below w.heap.size w w' :=
  (blank_any v xs w h).mono fun _ _ ⟨h1, h2⟩ => ⟨by rw [h1, hn], by rw [h2]; exact Below.refl _ _⟩
theorem blank_yes (w : World) (v : Value) (xs : List Int) (h : Byt w v xs) (hn : decide (xs = List.replicate xs.length 255) = true) : Calls Tryd.prog 17 #[v] w fun e w' => e = .returned (.bool true) ∧ Below w.heap.size w w' :=
  (blank_any v xs w h).mono fun _ _ ⟨h1, h2⟩ => ⟨by rw [h1, hn], by rw [h2]; exact Below.refl _ _⟩
theorem not_blank {S : Nat} {k n c l e t : Int} {p tag mk : List Int} (hl : p.length = 0 ∨ p.length = S) (hk : Rh k n c) : decide (plo S p ++ hend (hb k n c l e t) tag mk = List.replicate (plo S p ++ hend (hb k n c l e t) tag mk).length 255) = false := by
  have h1 := plo_len hl
  have hh : 0 < (hend (hb k n c l e t) tag mk).length := by simp [hend, hb]
  refine blank_at (k := S) (by rw [List.length_append, h1]; omega) ?_
  have e1 : gb (plo S p ++ hend (hb k n c l e t) tag mk) S = k := by
    rw [gb, List.getD_eq_getElem?_getD, List.getElem?_append_right (by omega), h1, Nat.sub_self]
    rfl
  rw [e1]
  obtain ⟨_, _, _⟩ := hk
  omega
theorem zero_geo : (Tryd.prog.info? 23).map (fun i => (i.zero, i.size)) = some (some (.agg ([.int .i64 0, .int .i64 0, .int .i64 0, .int .i64 0, .int .i64 0, .int .i64 0] : List Value).toArray), 6) := by kernel_rfl
theorem int_nob {g : List Int} : ∀ v ∈ g.map (Value.int .i64), ∀ y, v ≠ .int .u8 y := by
  intro v h y q
  subst q
  simp at h
theorem int_one {g : List Int} : ∀ v ∈ g.map (Value.int .i64), v.oneCell' = true := by
  intro v h
  obtain ⟨x, _, rfl⟩ := List.mem_map.1 h
  rfl
theorem size_geo : (Tryd.prog.info? 23).map (·.size) = some 6 := by kernel_rfl
theorem rt_awake : ge.Rt [7, 10, (64 : Nat), 0, 1, 1] := by
  refine ⟨⟨?_, ?_, ?_, ?_, ?_, ?_⟩, ?_, ?_, ?_⟩ <;> simp [gb, ge.rec]

set_option maxHeartbeats 4000000 in
theorem awake_any (w : World) (hT : Tab w) : Calls Tryd.prog 10 #[] w fun e w' => e = .returned (.bool true) ∧ Below w.heap.size w w' := by
  have SM : Hid (∀ w0, Below w.heap.size w w0 → Calls Tryd.prog 7 #[.agg (ints .i64 [7, 10, (64 : Nat), 0, 1, 1]), .agg (hv 1 0 0 0 0 0).toArray, .slice none 0 0, .slice none 0 0] w0 fun x w' => ∃ v, x = .returned (.tuple #[v, .int .i64 0]) ∧ Own w0.heap.size w' v (plo 64 [] ++ hend (hb 1 0 0 0 0 0) (tgo []) (List.replicate 8 255)) ∧ Below w0.heap.size w0 w') := fun w0 hb => make_yes 7 10 0 1 1 64 1 0 0 0 0 0 _ _ [] [] w0 (Byt.nil _) (Byt.nil _) ⟨by omega, by omega, by omega⟩ (hT.below hb) rt_awake (Or.inl rfl) ⟨by omega, by omega, by omega, by omega, by omega, by omega⟩ (Or.inl rfl)
  have ZN : Hid (decide (plo 64 [] ++ hend (hb 1 0 0 0 0 0) (tgo []) (List.replicate 8 255) = List.replicate (plo 64 [] ++ hend (hb 1 0 0 0 0 0) (tgo []) (List.replicate 8 255)).length 255) = false) := not_blank (Or.inl rfl) ⟨by omega, by omega, by omega, by omega, by omega, by omega⟩
  have ZL : Hid ((plo 64 [] ++ hend (hb 1 0 0 0 0 0) (tgo []) (List.replicate 8 255)).length = 152) := (by show _ = _; rw [List.length_append, plo_len (Or.inl rfl), hend_len (hb_len _ _ _ _ _ _) (tgo_len (Or.inl rfl)) (by simp)])
  have ZA : Hid (AllB (plo 64 [] ++ hend (hb 1 0 0 0 0 0) (tgo []) (List.replicate 8 255))) := allB_app (allB_replicate 255 _ (by omega)) (hend_all ⟨by omega, by omega, by omega, by omega, by omega, by omega⟩ (tgo_all (allB_mem fun x h => by simp at h)) (allB_replicate 255 _ (by omega)))
  generalize plo 64 [] ++ hend (hb 1 0 0 0 0 0) (tgo []) (List.replicate 8 255) = Z at SM ZN ZL ZA
  clear hT
  have t0 : (0 : Nat) = 0 := rfl
  go_enter Tryd.func10, Tryd.ntmps10
  go_wp2_with (first
    | (have q6 := t6; go_at_call 17; refine (blank_yes w4 _ [] (Byt.nil _) (by decide)).mono ?_; rintro e9 w5 ⟨rfl, B9⟩; have NB_HG : Hid (NoB w5 w.heap.size) := NB_HG.out.heap (B9.block _ (range_lt HG.out.1 (Nat.succ_pos _))); have HG : Hid (Vr w5 w.heap.size [.int .i64 7, .int .i64 10, .int .i64 64, .int .i64 0, .int .i64 1, .int .i64 1]) := HG.out.below B9 (range_lt HG.out.1 (Nat.succ_pos _)); have HO : Hid (Own w2.heap.size w5 (.slice eo 152 ec) Z) := own_low HO.out B9; have BB : Hid (Below w.heap.size w w5) := BB.out.trans (B9.mono BB.out.size); clear hg_0 hg_1 hg_2 hg_3 hg_4 hg_5; have hg_0 := HG.out.cell 0 _ rfl; have hg_1 := HG.out.cell 1 _ rfl; have hg_2 := HG.out.cell 2 _ rfl; have hg_3 := HG.out.cell 3 _ rfl; have hg_4 := HG.out.cell 4 _ rfl; have hg_5 := HG.out.cell 5 _ rfl; clear B9; clear t6; have t7 : (1 : Nat) = 1 := rfl)
    | (have q5 := t5; go_at_call 17; refine (blank_no w3 _ Z (HO.out.byt ZA.out) ZN.out).mono ?_; rintro e9 w4 ⟨rfl, B9⟩; have NB_HG : Hid (NoB w4 w.heap.size) := NB_HG.out.heap (B9.block _ (range_lt HG.out.1 (Nat.succ_pos _))); have HG : Hid (Vr w4 w.heap.size [.int .i64 7, .int .i64 10, .int .i64 64, .int .i64 0, .int .i64 1, .int .i64 1]) := HG.out.below B9 (range_lt HG.out.1 (Nat.succ_pos _)); have HO : Hid (Own w2.heap.size w4 (.slice eo 152 ec) Z) := own_low HO.out B9; have BB : Hid (Below w.heap.size w w4) := BB.out.trans (B9.mono BB.out.size); clear hg_0 hg_1 hg_2 hg_3 hg_4 hg_5; have hg_0 := HG.out.cell 0 _ rfl; have hg_1 := HG.out.cell 1 _ rfl; have hg_2 := HG.out.cell 2 _ rfl; have hg_3 := HG.out.cell 3 _ rfl; have hg_4 := HG.out.cell 4 _ rfl; have hg_5 := HG.out.cell 5 _ rfl; clear B9; clear t5; have t6 : (1 : Nat) = 1 := rfl)
    | (have q4 := t4; go_at_call 7; refine (SM.out w2 BB.out).mono ?_; rintro e9 w3 ⟨v9, rfl, O9, B9⟩; have NB_HG : Hid (NoB w3 w.heap.size) := NB_HG.out.heap (B9.block _ (range_lt HG.out.1 (Nat.succ_pos _))); have HG : Hid (Vr w3 w.heap.size [.int .i64 7, .int .i64 10, .int .i64 64, .int .i64 0, .int .i64 1, .int .i64 1]) := HG.out.below B9 (range_lt HG.out.1 (Nat.succ_pos _)); obtain ⟨eo, ec, rfl⟩ := own_form O9 ZA.out; rw [ZL.out] at O9 ⊢; have HO : Hid (Own w2.heap.size w3 (.slice eo 152 ec) Z) := O9; have BB : Hid (Below w.heap.size w w3) := BB.out.trans (B9.mono BB.out.size); clear hg_0 hg_1 hg_2 hg_3 hg_4 hg_5; have hg_0 := HG.out.cell 0 _ rfl; have hg_1 := HG.out.cell 1 _ rfl; have hg_2 := HG.out.cell 2 _ rfl; have hg_3 := HG.out.cell 3 _ rfl; have hg_4 := HG.out.cell 4 _ rfl; have hg_5 := HG.out.cell 5 _ rfl; clear B9 O9; clear t4; have t5 : (1 : Nat) = 1 := rfl)
    | (have q3 := t3; refine build_law _ rfl 27 _ rfl (.agg (hv 1 0 0 0 0 0).toArray) (by kernel_rfl) ?_; clear t3; have t4 : (1 : Nat) = 1 := rfl)
    | (have q2 := t2; (with_reducible refine at_store ?_); refine store_lawC _ [.int .i64 7, .int .i64 10, .int .i64 64, .int .i64 0, .int .i64 1, .int .i64 1] w.heap.size 0 rfl rfl HG.out.2 size_geo (int_one (g := [7, 10, 64, 0, 1, 1])) ?_; intro w2 E9 R9 T9 B9; have K9 : ∀ k, k ≠ w.heap.size → w2.heap[k]? = w1.heap[k]? := (by rw [E9.out]; exact fun k hk => heap_cells _ _ _ _ k hk); have NB_HG : Hid (NoB w2 w.heap.size) := (by rw [E9.out]; exact NB_HG.out.set HG.out rfl (int_nob (g := [7, 10, 64, 0, 1, 1]))); have HG : Hid (Vr w2 w.heap.size [.int .i64 7, .int .i64 10, .int .i64 64, .int .i64 0, .int .i64 1, .int .i64 1]) := ⟨R9, T9⟩; have BB : Hid (Below w.heap.size w w2) := BB.out.trans (B9.mono LE_HG.out); have hg_0 := HG.out.cell 0 _ rfl; have hg_1 := HG.out.cell 1 _ rfl; have hg_2 := HG.out.cell 2 _ rfl; have hg_3 := HG.out.cell 3 _ rfl; have hg_4 := HG.out.cell 4 _ rfl; have hg_5 := HG.out.cell 5 _ rfl; clear E9 R9 T9 B9 K9; clear t2; have t3 : (1 : Nat) = 1 := rfl)
    | (have q1 := t1; (with_reducible refine at_alloc ?_); refine new_lawN _ [.int .i64 0, .int .i64 0, .int .i64 0, .int .i64 0, .int .i64 0, .int .i64 0] zero_geo (int_nob (g := [0, 0, 0, 0, 0, 0])) ?_; intro w1 X9 N9 B9; have LE_HG : Hid (w.heap.size ≤ w.heap.size) := Nat.le_refl _; have HG : Hid (Vr w1 w.heap.size [.int .i64 0, .int .i64 0, .int .i64 0, .int .i64 0, .int .i64 0, .int .i64 0]) := X9; have NB_HG : Hid (NoB w1 w.heap.size) := N9; have BB : Hid (Below w.heap.size w w1) := B9; clear X9 N9 B9; clear t1; have t2 : (1 : Nat) = 1 := rfl)
    | (have q0 := t0; refine build_law _ rfl 23 _ rfl (.agg ([.int .i64 7, .int .i64 10, .int .i64 64, .int .i64 0, .int .i64 1, .int .i64 1] : List Value).toArray) (by kernel_rfl) ?_; clear t0; have t1 : (1 : Nat) = 1 := rfl))
  go_ret
  exact ⟨rfl, BB.out⟩
end Go.Proofs.YtpmakkjcpoillaaDoor.pa
