/- P9.1: the first n masks of any tweak under any keys: each is the tweak, encrypted and doubled so often, where keys and tweak may be and n is 0 to 256; else ErrShape; a nil cipher, and one that New did not make, refuse. -/
import Derived.Test.YtijadglmbopboaaPackE
import Derived.Test.YtijadglmbopboaaPackG
import Derived.Deep.DeepCutAuto
namespace Go.Proofs.Ytijadglmbopboaa.xtsMasks
open Go.ChangeShapes Go.WideShapes Go.ChangeAt Go.RowKit

open Go.Proofs.Ytijadglmbopboaa.xt

/-- a value gets a place, in a region that draws its order -/
theorem step_box {ops : Array Oper} {o : Oper} {a : Act} {Q : Exit → Act → World → Prop} {K : Act → World → Prop} {E : Prop} (w : World) (hg : o.guard = none) (d : Option Tmp) (hd : o.dst = d) (x : Operand) (t : TypeId) (hop : o.op = Op.box t x) (cs : Array Value) (hx : a.eval x = .agg cs)
    (hK : ∀ w', (∀ i v, cs[i]? = some v → w'.cell? ⟨w.heap.size, i, none⟩ = some v) → Below w.heap.size w w' → K (a.put d (.pointer (some ⟨w.heap.size, 0, none⟩))) w') :
    if Region.wanted o (yielded ops a.tmps) = true then Oper.wp Try.prog o a w K Q else E := by
  have hw : Region.wanted o (yielded ops a.tmps) = true := by simp [Region.wanted, hg]
  rw [if_pos hw]
  subst hd
  have := hK (w.alloc (.cells cs t)) (fun i v hv => (cell_of_row _ w.heap.size i _ t (0, 0) (heap_alloc_last w _)).trans hv) ((Below.refl _ _).alloc (Nat.le_refl _) _)
  unfold Oper.wp
  simp [execOp, hop, hx, Instr.box, newVar, newRow, Value.cells, Result.andThen]
  exact this

set_option maxRecDepth 20000 in
set_option maxHeartbeats 8000000 in
theorem walk_key (va : Value) (dk : List Int) (vb : Value) (tk : List Int) (vc : Value) (ab : List Int) (n : Int) (w : World) (h0 : Byt w va dk) (h1 : Byt w vb tk) (h2 : Byt w vc ab) (hk : ¬ (dk.length = 32 ∧ tk.length = 32)) :
    Calls Try.prog 7 #[.agg #[va, vb, vc], .int .i64 n] w fun e w' => e = .returned (.bool true) ∧ Below w.heap.size w w' := by
  have AW : Hid (∀ w0, Calls Try.prog 8 #[] w0 fun e w' => e = .returned (.bool true) ∧ Below w0.heap.size w0 w') := awake_any
  have NE : Hid (∀ av sv w0, Calls Try.prog 10 #[.pointer none, av, sv] w0 fun e w' => ∃ v, e = .returned v ∧ v = .tuple #[.slice none 0 0, .int .i64 2] ∧ w' = w0) := fun av sv w0 => (xenc_nil av sv w0).mono fun _ _ ⟨he, hw⟩ => ⟨_, he, rfl, hw⟩
  have ND : Hid (∀ av sv w0, Calls Try.prog 15 #[.pointer none, av, sv] w0 fun e w' => ∃ v, e = .returned v ∧ v = .tuple #[.slice none 0 0, .int .i64 2] ∧ w' = w0) := fun av sv w0 => (xdec_nil av sv w0).mono fun _ _ ⟨he, hw⟩ => ⟨_, he, rfl, hw⟩
  have RE : Hid (∀ c av sv w0, w0.cell? ⟨c, 0, none⟩ = some (.pointer none) → w0.cell? ⟨c, 1, none⟩ = some (.pointer none) → Byt w0 sv (List.replicate 16 0) → Calls Try.prog 10 #[.pointer (some ⟨c, 0, none⟩), av, sv] w0 fun e w' => ∃ v, e = .returned v ∧ v = .tuple #[.slice none 0 0, .int .i64 2] ∧ w' = w0) := fun c av sv w0 k0 k1 hy => (xenc_raw c av sv _ w0 k0 k1 hy).mono fun _ _ ⟨he, hw⟩ => ⟨_, he, rfl, hw⟩
  have S1 : Hid (∀ w0, Below w.heap.size w w0 → Calls Try.prog 9 #[va, vb] w0 fun e w' => e = .returned (.tuple #[.pointer none, .int .i64 2]) ∧ Below w0.heap.size w0 w') := fun w0 hb => xnew_no va vb dk tk w0 (h0.below hb) (h1.below hb) hk
  have S2 : Hid (∀ w0, Calls Try.prog 17 #[.pointer none, vc, .int .i64 n] w0 fun e w' => e = .returned (.tuple #[.slice none 0 0, .int .i64 2]) ∧ w' = w0) := fun w0 => masks_nil vc n w0
  obtain ⟨o1, p1, rfl, -, -, -, -, -⟩ := h0
  obtain ⟨o2, p2, rfl, -, -, -, -, -⟩ := h1
  obtain ⟨o3, p3, rfl, -, -, -, -, -⟩ := h2
  generalize dk.length = p at *
  generalize tk.length = q at *
  generalize ab.length = r at *
  have HK : Hid (¬ (p = 32 ∧ q = 32)) := hk
  clear hk
  have t0 : (0 : Nat) = 0 := rfl
  go_enter Try.func7, Try.ntmps7
  go_wp2_with (first
    | (have q2 := t2; go_at_call 17; refine (S2.out _).mono ?_; rintro e w3 ⟨rfl, hw⟩; obtain rfl := hw.symm; clear t2)
    | (have q1 := t1; go_at_call 9; refine (S1.out _ BB.out).mono ?_; rintro e w3 ⟨rfl, B2⟩; have BB : Hid (Below w.heap.size w w3) := BB.out.trans (B2.mono BB.out.size); have XX : Hid (Bx w3 kb (.slice o1 p p1) (.slice o2 q p2) (.slice o3 r p3)) := XX.out.below B2; obtain ⟨f0, f1, f2⟩ := XX.out; have t2 : (0 : Nat) = 0 := rfl; clear B2 t1)
    | (have q0 := t0; refine box_keys _ rfl (.tmp 0) rfl (.slice o1 p p1) (.slice o2 q p2) (.slice o3 r p3) rfl ?_; intro w1 X1 B1; obtain ⟨kb, hkb⟩ : ∃ k, k = w.heap.size := ⟨_, rfl⟩; rw [← hkb] at X1; rw [← hkb]; have BB : Hid (Below w.heap.size w w1) := B1; have XX : Hid (Bx w1 kb (.slice o1 p p1) (.slice o2 q p2) (.slice o3 r p3)) := X1; obtain ⟨f0, f1, f2⟩ := X1; have t1 : (0 : Nat) = 0 := rfl; clear hkb B1 t0))
  have R2 : Hid (∀ w', Below w3.heap.size w3 w' → (Instr.loadAt 22 (.pointer (some ⟨kb, 2, none⟩))).run Try.prog w' = .ok (.slice o3 r p3) w') := fun w' h => (XX.out.below h).load2
  refine wp_region_held_drew (S := fun w' => Below w3.heap.size w3 w') (by kernel_rfl) (Below.refl _ _).drew (fun hS => ?_)
  obtain ⟨x1, hx1⟩ : ∃ x, x = w3.drew := ⟨_, rfl⟩
  rw [← hx1] at hS ⊢
  clear hx1
  refine take_lawH 0 (some 35) (.pointer none) rfl rfl (by kernel_rfl) (by kernel_rfl) (by kernel_rfl) (fun _ _ _ h => h) (Or.inl ⟨by rfl, fun w' hw' => by rfl⟩) hS ?_
  simp only [Act.put, List.setIfInBounds_toArray, List.set_cons_zero, List.set_cons_succ]
  refine take_lawH 1 (some 36) (.pointer (some ⟨kb, 2, none⟩)) rfl rfl (by kernel_rfl) (by kernel_rfl) (by kernel_rfl) (fun _ _ _ h => h) (Or.inl ⟨by rfl, fun w' hw' => by go_simp⟩) hS ?_
  simp only [Act.put, List.setIfInBounds_toArray, List.set_cons_zero, List.set_cons_succ]
  refine take_lawH 2 (some 37) (.slice o3 r p3) rfl rfl (by kernel_rfl) (by kernel_rfl) (by kernel_rfl) (fun _ _ _ h => h) (Or.inl ⟨by rfl, fun w' hw' => by exact exec_load 22 (.tmp 36) rfl _ rfl _ _ (R2.out w' hw')⟩) hS ?_
  simp only [Act.put, List.setIfInBounds_toArray, List.set_cons_zero, List.set_cons_succ]
  refine wpAnyH_ready (rs := [3]) (by kernel_rfl) (by simp) ?_
  refine AllReadyH.cons rfl (fun K hK => ?_) AllReadyH.nil
  refine step_make _ rfl (some 38) rfl _ _ rfl _ (Nat.le_refl _) 16 16 rfl rfl rfl (by omega) fun x2 hx2 bx2 sx2 => ?_
  have hS : Below w3.heap.size w3 x2 := hS.trans (bx2.mono hS.size)
  clear hx2 bx2 sx2
  refine hK.out _ _ hS (fun _ => ?_)
  simp only [Act.put, List.setIfInBounds_toArray, List.set_cons_zero, List.set_cons_succ]
  clear hK K
  generalize x1.heap.size = gg1 at *
  refine wpAnyH_ready (rs := [4]) (by kernel_rfl) (by simp) ?_
  refine AllReadyH.cons rfl (fun K hK => ?_) AllReadyH.nil
  refine step_callW _ (by rfl) (some 39) rfl 10 #[.tmp 35, .tmp 37, .tmp 38] #[26, 22, 22] rfl (fun q w' => by rfl) #[.pointer none, .slice o3 r p3, .slice (some ⟨gg1, 0, none⟩) 16 16] (by simp only [List.map_toArray, List.map_cons, List.map_nil]; rfl) _ (NE.out _ _ _) ?_
  rintro _ y1 ⟨rfl, hy⟩
  obtain rfl := hy.symm
  refine hK.out _ _ hS (fun _ => ?_)
  simp only [Act.put, List.setIfInBounds_toArray, List.set_cons_zero, List.set_cons_succ]
  clear hK K
  refine take_lawH 5 (some 34) (.tuple #[.slice none 0 0, .int .i64 2]) rfl rfl (by kernel_rfl) (by kernel_rfl) (by kernel_rfl) (fun _ _ _ h => h) (Or.inl ⟨by rfl, fun w' hw' => by rfl⟩) hS ?_
  simp only [Act.put, List.setIfInBounds_toArray, List.set_cons_zero, List.set_cons_succ]
  refine take_lawH 6 (some 40) (.slice none 0 0) rfl rfl (by kernel_rfl) (by kernel_rfl) (by kernel_rfl) (fun _ _ _ h => h) (Or.inl ⟨by rfl, fun w' hw' => by rfl⟩) hS ?_
  simp only [Act.put, List.setIfInBounds_toArray, List.set_cons_zero, List.set_cons_succ]
  refine take_lawH 7 (some 41) (.int .i64 2) rfl rfl (by kernel_rfl) (by kernel_rfl) (by kernel_rfl) (fun _ _ _ h => h) (Or.inl ⟨by rfl, fun w' hw' => by rfl⟩) hS ?_
  simp only [Act.put, List.setIfInBounds_toArray, List.set_cons_zero, List.set_cons_succ]
  refine wpAnyH_ready (rs := [8]) (by kernel_rfl) (by simp) ?_
  refine AllReadyH.cons rfl (fun K hK => ?_) AllReadyH.nil
  refine step_movG _ rfl (some 10) rfl (.tmp 40) rfl (.slice none 0 0) rfl ?_
  refine hK.out _ _ hS (fun _ => ?_)
  simp only [Act.put, List.setIfInBounds_toArray, List.set_cons_zero, List.set_cons_succ]
  clear hK K
  refine wpAnyH_ready (rs := [9]) (by kernel_rfl) (by simp) ?_
  refine AllReadyH.cons rfl (fun K hK => ?_) AllReadyH.nil
  refine step_movG _ rfl (some 11) rfl (.tmp 41) rfl (.int .i64 2) rfl ?_
  refine hK.out _ _ hS (fun _ => ?_)
  simp only [Act.put, List.setIfInBounds_toArray, List.set_cons_zero, List.set_cons_succ]
  clear hK K
  refine wpAnyH_done (by kernel_rfl) ?_ _
  go_wp2
  have BB : Hid (Below w.heap.size w x2) := BB.out.trans (hS.mono BB.out.size)
  have XX : Hid (Bx x2 kb (.slice o1 p p1) (.slice o2 q p2) (.slice o3 r p3)) := XX.out.below hS
  have R2 : Hid (∀ w', Below x2.heap.size x2 w' → (Instr.loadAt 22 (.pointer (some ⟨kb, 2, none⟩))).run Try.prog w' = .ok (.slice o3 r p3) w') := fun w' h => (XX.out.below h).load2
  clear hS
  refine wp_region_held_drew (S := fun w' => Below x2.heap.size x2 w') (by kernel_rfl) (Below.refl _ _).drew (fun hS => ?_)
  obtain ⟨x3, hx3⟩ : ∃ x, x = x2.drew := ⟨_, rfl⟩
  rw [← hx3] at hS ⊢
  clear hx3
  refine take_lawH 0 (some 43) (.pointer none) rfl rfl (by kernel_rfl) (by kernel_rfl) (by kernel_rfl) (fun _ _ _ h => h) (Or.inl ⟨by rfl, fun w' hw' => by rfl⟩) hS ?_
  simp only [Act.put, List.setIfInBounds_toArray, List.set_cons_zero, List.set_cons_succ]
  refine take_lawH 1 (some 44) (.pointer (some ⟨kb, 2, none⟩)) rfl rfl (by kernel_rfl) (by kernel_rfl) (by kernel_rfl) (fun _ _ _ h => h) (Or.inl ⟨by rfl, fun w' hw' => by go_simp⟩) hS ?_
  simp only [Act.put, List.setIfInBounds_toArray, List.set_cons_zero, List.set_cons_succ]
  refine take_lawH 2 (some 45) (.slice o3 r p3) rfl rfl (by kernel_rfl) (by kernel_rfl) (by kernel_rfl) (fun _ _ _ h => h) (Or.inl ⟨by rfl, fun w' hw' => by exact exec_load 22 (.tmp 44) rfl _ rfl _ _ (R2.out w' hw')⟩) hS ?_
  simp only [Act.put, List.setIfInBounds_toArray, List.set_cons_zero, List.set_cons_succ]
  refine wpAnyH_ready (rs := [3]) (by kernel_rfl) (by simp) ?_
  refine AllReadyH.cons rfl (fun K hK => ?_) AllReadyH.nil
  refine step_make _ rfl (some 46) rfl _ _ rfl _ (Nat.le_refl _) 16 16 rfl rfl rfl (by omega) fun x4 hx4 bx4 sx4 => ?_
  have hS : Below x2.heap.size x2 x4 := hS.trans (bx4.mono hS.size)
  clear hx4 bx4 sx4
  refine hK.out _ _ hS (fun _ => ?_)
  simp only [Act.put, List.setIfInBounds_toArray, List.set_cons_zero, List.set_cons_succ]
  clear hK K
  generalize x3.heap.size = gg3 at *
  refine wpAnyH_ready (rs := [4]) (by kernel_rfl) (by simp) ?_
  refine AllReadyH.cons rfl (fun K hK => ?_) AllReadyH.nil
  refine step_callW _ (by rfl) (some 47) rfl 15 #[.tmp 43, .tmp 45, .tmp 46] #[26, 22, 22] rfl (fun q w' => by rfl) #[.pointer none, .slice o3 r p3, .slice (some ⟨gg3, 0, none⟩) 16 16] (by simp only [List.map_toArray, List.map_cons, List.map_nil]; rfl) _ (ND.out _ _ _) ?_
  rintro _ y3 ⟨rfl, hy⟩
  obtain rfl := hy.symm
  refine hK.out _ _ hS (fun _ => ?_)
  simp only [Act.put, List.setIfInBounds_toArray, List.set_cons_zero, List.set_cons_succ]
  clear hK K
  refine take_lawH 5 (some 42) (.tuple #[.slice none 0 0, .int .i64 2]) rfl rfl (by kernel_rfl) (by kernel_rfl) (by kernel_rfl) (fun _ _ _ h => h) (Or.inl ⟨by rfl, fun w' hw' => by rfl⟩) hS ?_
  simp only [Act.put, List.setIfInBounds_toArray, List.set_cons_zero, List.set_cons_succ]
  refine take_lawH 6 (some 48) (.slice none 0 0) rfl rfl (by kernel_rfl) (by kernel_rfl) (by kernel_rfl) (fun _ _ _ h => h) (Or.inl ⟨by rfl, fun w' hw' => by rfl⟩) hS ?_
  simp only [Act.put, List.setIfInBounds_toArray, List.set_cons_zero, List.set_cons_succ]
  refine take_lawH 7 (some 49) (.int .i64 2) rfl rfl (by kernel_rfl) (by kernel_rfl) (by kernel_rfl) (fun _ _ _ h => h) (Or.inl ⟨by rfl, fun w' hw' => by rfl⟩) hS ?_
  simp only [Act.put, List.setIfInBounds_toArray, List.set_cons_zero, List.set_cons_succ]
  refine wpAnyH_ready (rs := [8]) (by kernel_rfl) (by simp) ?_
  refine AllReadyH.cons rfl (fun K hK => ?_) AllReadyH.nil
  refine step_movG _ rfl (some 12) rfl (.tmp 48) rfl (.slice none 0 0) rfl ?_
  refine hK.out _ _ hS (fun _ => ?_)
  simp only [Act.put, List.setIfInBounds_toArray, List.set_cons_zero, List.set_cons_succ]
  clear hK K
  refine wpAnyH_ready (rs := [9]) (by kernel_rfl) (by simp) ?_
  refine AllReadyH.cons rfl (fun K hK => ?_) AllReadyH.nil
  refine step_movG _ rfl (some 13) rfl (.tmp 49) rfl (.int .i64 2) rfl ?_
  refine hK.out _ _ hS (fun _ => ?_)
  simp only [Act.put, List.setIfInBounds_toArray, List.set_cons_zero, List.set_cons_succ]
  clear hK K
  refine wpAnyH_done (by kernel_rfl) ?_ _
  go_wp2
  have BB : Hid (Below w.heap.size w x4) := BB.out.trans (hS.mono BB.out.size)
  have XX : Hid (Bx x4 kb (.slice o1 p p1) (.slice o2 q p2) (.slice o3 r p3)) := XX.out.below hS
  have R2 : Hid (∀ w', Below x4.heap.size x4 w' → (Instr.loadAt 22 (.pointer (some ⟨kb, 2, none⟩))).run Try.prog w' = .ok (.slice o3 r p3) w') := fun w' h => (XX.out.below h).load2
  clear hS
  go_cut [14, 15] (fun r14 r15 wc => r14 = .slice none 0 0 ∧ r15 = .int .i64 2 ∧ Below x4.heap.size x4 wc)
  case first =>
    refine wp_region_held_drew (S := fun w' => Below x4.heap.size x4 w') (by kernel_rfl) (Below.refl _ _).drew (fun hS => ?_)
    obtain ⟨x5, hx5⟩ : ∃ x, x = x4.drew := ⟨_, rfl⟩
    rw [← hx5] at hS ⊢
    clear hx5
    refine take_lawH 0 (some 51) (.agg #[.pointer none, .pointer none]) rfl rfl (by kernel_rfl) (by kernel_rfl) (by kernel_rfl) (fun _ _ _ h => h) (Or.inl ⟨by rfl, fun w' hw' => by kernel_rfl⟩) hS ?_
    simp only [Act.put, List.setIfInBounds_toArray, List.set_cons_zero, List.set_cons_succ]
    refine take_lawH 2 (some 53) (.pointer (some ⟨kb, 2, none⟩)) rfl rfl (by kernel_rfl) (by kernel_rfl) (by kernel_rfl) (fun _ _ _ h => h) (Or.inl ⟨by rfl, fun w' hw' => by go_simp⟩) hS ?_
    simp only [Act.put, List.setIfInBounds_toArray, List.set_cons_zero, List.set_cons_succ]
    refine take_lawH 3 (some 54) (.slice o3 r p3) rfl rfl (by kernel_rfl) (by kernel_rfl) (by kernel_rfl) (fun _ _ _ h => h) (Or.inl ⟨by rfl, fun w' hw' => by exact exec_load 22 (.tmp 53) rfl _ rfl _ _ (R2.out w' hw')⟩) hS ?_
    simp only [Act.put, List.setIfInBounds_toArray, List.set_cons_zero, List.set_cons_succ]
    refine wpAnyH_ready (rs := [1, 4]) (by kernel_rfl) (by simp) ?_
    refine AllReadyH.cons rfl (fun K hK => ?_) (AllReadyH.cons rfl (fun K hK => ?_) AllReadyH.nil)
    · refine step_box _ rfl (some 52) rfl (.tmp 51) 43 rfl #[.pointer none, .pointer none] rfl fun x6 cx6 bx6 => ?_
      have hS : Below x4.heap.size x4 x6 := hS.trans (bx6.mono hS.size)
      have C0 : Hid (x6.cell? ⟨x5.heap.size, 0, none⟩ = some (.pointer none) ∧ x6.cell? ⟨x5.heap.size, 1, none⟩ = some (.pointer none)) := ⟨cx6 0 _ rfl, cx6 1 _ rfl⟩
      refine hK.out _ _ hS (fun _ => ?_)
      simp only [Act.put, List.setIfInBounds_toArray, List.set_cons_zero, List.set_cons_succ]
      clear hK K
      have lt1 : x5.heap.size < x6.heap.size := World.block_lt_of_cell? _ _ C0.out.1
      generalize x5.heap.size = gg at *
      refine wpAnyH_ready (rs := [4]) (by kernel_rfl) (by simp) ?_
      refine AllReadyH.cons rfl (fun K hK => ?_) AllReadyH.nil
      refine step_make _ rfl (some 55) rfl _ _ rfl _ (Nat.le_refl _) 16 16 rfl rfl rfl (by omega) fun x7 hx7 bx7 sx7 => ?_
      have hS : Below x4.heap.size x4 x7 := hS.trans (bx7.mono hS.size)
      have YM : Hid (Byt x7 (.slice (some ⟨x6.heap.size, 0, none⟩) 16 16) (List.replicate 16 0)) := OwnN.zero hx7 rfl
      have C0 : Hid (x7.cell? ⟨gg, 0, none⟩ = some (.pointer none) ∧ x7.cell? ⟨gg, 1, none⟩ = some (.pointer none)) := ⟨(bx7.cell lt1).trans C0.out.1, (bx7.cell lt1).trans C0.out.2⟩
      refine hK.out _ _ hS (fun _ => ?_)
      simp only [Act.put, List.setIfInBounds_toArray, List.set_cons_zero, List.set_cons_succ]
      clear hK K
      generalize x6.heap.size = gm at *
      refine wpAnyH_ready (rs := [5]) (by kernel_rfl) (by simp) ?_
      refine AllReadyH.cons rfl (fun K hK => ?_) AllReadyH.nil
      refine step_callW _ (by rfl) (some 56) rfl 10 #[.tmp 52, .tmp 54, .tmp 55] #[26, 22, 22] rfl (fun q w' => by rfl) #[.pointer (some ⟨gg, 0, none⟩), .slice o3 r p3, .slice (some ⟨gm, 0, none⟩) 16 16] (by simp only [List.map_toArray, List.map_cons, List.map_nil]; rfl) _ (RE.out _ _ _ _ C0.out.1 C0.out.2 YM.out) ?_
      rintro _ yz ⟨rfl, hy⟩
      obtain rfl := hy.symm
      refine hK.out _ _ hS (fun _ => ?_)
      simp only [Act.put, List.setIfInBounds_toArray, List.set_cons_zero, List.set_cons_succ]
      clear hK K
      refine take_lawH 6 (some 50) (.tuple #[.slice none 0 0, .int .i64 2]) rfl rfl (by kernel_rfl) (by kernel_rfl) (by kernel_rfl) (fun _ _ _ h => h) (Or.inl ⟨by rfl, fun w' hw' => by rfl⟩) hS ?_
      simp only [Act.put, List.setIfInBounds_toArray, List.set_cons_zero, List.set_cons_succ]
      refine take_lawH 7 (some 57) (.slice none 0 0) rfl rfl (by kernel_rfl) (by kernel_rfl) (by kernel_rfl) (fun _ _ _ h => h) (Or.inl ⟨by rfl, fun w' hw' => by rfl⟩) hS ?_
      simp only [Act.put, List.setIfInBounds_toArray, List.set_cons_zero, List.set_cons_succ]
      refine take_lawH 8 (some 58) (.int .i64 2) rfl rfl (by kernel_rfl) (by kernel_rfl) (by kernel_rfl) (fun _ _ _ h => h) (Or.inl ⟨by rfl, fun w' hw' => by rfl⟩) hS ?_
      simp only [Act.put, List.setIfInBounds_toArray, List.set_cons_zero, List.set_cons_succ]
      refine wpAnyH_ready (rs := [9]) (by kernel_rfl) (by simp) ?_
      refine AllReadyH.cons rfl (fun K hK => ?_) AllReadyH.nil
      refine step_movG _ rfl (some 14) rfl (.tmp 57) rfl (.slice none 0 0) rfl ?_
      refine hK.out _ _ hS (fun _ => ?_)
      simp only [Act.put, List.setIfInBounds_toArray, List.set_cons_zero, List.set_cons_succ]
      clear hK K
      refine wpAnyH_ready (rs := [10]) (by kernel_rfl) (by simp) ?_
      refine AllReadyH.cons rfl (fun K hK => ?_) AllReadyH.nil
      refine step_movG _ rfl (some 15) rfl (.tmp 58) rfl (.int .i64 2) rfl ?_
      refine hK.out _ _ hS (fun _ => ?_)
      simp only [Act.put, List.setIfInBounds_toArray, List.set_cons_zero, List.set_cons_succ]
      clear hK K
      refine wpAnyH_done (by kernel_rfl) ?_ _
      go_wp2_with fail
      go_meet
      exact ⟨rfl, rfl, hS⟩
    · refine step_make _ rfl (some 55) rfl _ _ rfl _ (Nat.le_refl _) 16 16 rfl rfl rfl (by omega) fun x6 hx6 bx6 sx6 => ?_
      have hS : Below x4.heap.size x4 x6 := hS.trans (bx6.mono hS.size)
      have YM : Hid (Byt x6 (.slice (some ⟨x5.heap.size, 0, none⟩) 16 16) (List.replicate 16 0)) := OwnN.zero hx6 rfl
      refine hK.out _ _ hS (fun _ => ?_)
      simp only [Act.put, List.setIfInBounds_toArray, List.set_cons_zero, List.set_cons_succ]
      clear hK K
      generalize x5.heap.size = gm at *
      refine wpAnyH_ready (rs := [1]) (by kernel_rfl) (by simp) ?_
      refine AllReadyH.cons rfl (fun K hK => ?_) AllReadyH.nil
      refine step_box _ rfl (some 52) rfl (.tmp 51) 43 rfl #[.pointer none, .pointer none] rfl fun x7 cx7 bx7 => ?_
      have hS : Below x4.heap.size x4 x7 := hS.trans (bx7.mono hS.size)
      have C0 : Hid (x7.cell? ⟨x6.heap.size, 0, none⟩ = some (.pointer none) ∧ x7.cell? ⟨x6.heap.size, 1, none⟩ = some (.pointer none)) := ⟨cx7 0 _ rfl, cx7 1 _ rfl⟩
      have YM : Hid (Byt x7 (.slice (some ⟨gm, 0, none⟩) 16 16) (List.replicate 16 0)) := YM.out.below bx7
      refine hK.out _ _ hS (fun _ => ?_)
      simp only [Act.put, List.setIfInBounds_toArray, List.set_cons_zero, List.set_cons_succ]
      clear hK K
      generalize x6.heap.size = gg at *
      refine wpAnyH_ready (rs := [5]) (by kernel_rfl) (by simp) ?_
      refine AllReadyH.cons rfl (fun K hK => ?_) AllReadyH.nil
      refine step_callW _ (by rfl) (some 56) rfl 10 #[.tmp 52, .tmp 54, .tmp 55] #[26, 22, 22] rfl (fun q w' => by rfl) #[.pointer (some ⟨gg, 0, none⟩), .slice o3 r p3, .slice (some ⟨gm, 0, none⟩) 16 16] (by simp only [List.map_toArray, List.map_cons, List.map_nil]; rfl) _ (RE.out _ _ _ _ C0.out.1 C0.out.2 YM.out) ?_
      rintro _ yz ⟨rfl, hy⟩
      obtain rfl := hy.symm
      refine hK.out _ _ hS (fun _ => ?_)
      simp only [Act.put, List.setIfInBounds_toArray, List.set_cons_zero, List.set_cons_succ]
      clear hK K
      refine take_lawH 6 (some 50) (.tuple #[.slice none 0 0, .int .i64 2]) rfl rfl (by kernel_rfl) (by kernel_rfl) (by kernel_rfl) (fun _ _ _ h => h) (Or.inl ⟨by rfl, fun w' hw' => by rfl⟩) hS ?_
      simp only [Act.put, List.setIfInBounds_toArray, List.set_cons_zero, List.set_cons_succ]
      refine take_lawH 7 (some 57) (.slice none 0 0) rfl rfl (by kernel_rfl) (by kernel_rfl) (by kernel_rfl) (fun _ _ _ h => h) (Or.inl ⟨by rfl, fun w' hw' => by rfl⟩) hS ?_
      simp only [Act.put, List.setIfInBounds_toArray, List.set_cons_zero, List.set_cons_succ]
      refine take_lawH 8 (some 58) (.int .i64 2) rfl rfl (by kernel_rfl) (by kernel_rfl) (by kernel_rfl) (fun _ _ _ h => h) (Or.inl ⟨by rfl, fun w' hw' => by rfl⟩) hS ?_
      simp only [Act.put, List.setIfInBounds_toArray, List.set_cons_zero, List.set_cons_succ]
      refine wpAnyH_ready (rs := [9]) (by kernel_rfl) (by simp) ?_
      refine AllReadyH.cons rfl (fun K hK => ?_) AllReadyH.nil
      refine step_movG _ rfl (some 14) rfl (.tmp 57) rfl (.slice none 0 0) rfl ?_
      refine hK.out _ _ hS (fun _ => ?_)
      simp only [Act.put, List.setIfInBounds_toArray, List.set_cons_zero, List.set_cons_succ]
      clear hK K
      refine wpAnyH_ready (rs := [10]) (by kernel_rfl) (by simp) ?_
      refine AllReadyH.cons rfl (fun K hK => ?_) AllReadyH.nil
      refine step_movG _ rfl (some 15) rfl (.tmp 58) rfl (.int .i64 2) rfl ?_
      refine hK.out _ _ hS (fun _ => ?_)
      simp only [Act.put, List.setIfInBounds_toArray, List.set_cons_zero, List.set_cons_succ]
      clear hK K
      refine wpAnyH_done (by kernel_rfl) ?_ _
      go_wp2_with fail
      go_meet
      exact ⟨rfl, rfl, hS⟩
  case rest =>
    obtain ⟨rfl, rfl, hS⟩ := hcut
    have BB : Hid (Below w.heap.size w wc) := BB.out.trans (hS.mono BB.out.size)
    have XX : Hid (Bx wc kb (.slice o1 p p1) (.slice o2 q p2) (.slice o3 r p3)) := XX.out.below hS
    obtain ⟨f0, f1, f2⟩ := XX.out
    clear hS R2 RE NE ND
    by_cases e1 : p = 32
    · subst e1
      have l2 : ((q : Int) != 32) = true := by have := HK.out; simp; omega
      go_wp2_with (go_at_call 8; refine (AW.out _).mono ?_; rintro e w9 ⟨rfl, B9⟩)
      go_ret
      exact ⟨rfl, BB.out.trans (B9.mono BB.out.size)⟩
    · have l1 : ((p : Int) != 32) = true := by simp; omega
      go_wp2_with (go_at_call 8; refine (AW.out _).mono ?_; rintro e w9 ⟨rfl, B9⟩)
      go_ret
      exact ⟨rfl, BB.out.trans (B9.mono BB.out.size)⟩

set_option maxRecDepth 20000 in
set_option maxHeartbeats 8000000 in
theorem walk_at (va : Value) (dk : List Int) (vb : Value) (tk : List Int) (vc : Value) (ab : List Int) (n : Int) (w : World) (h0 : Byt w va dk) (h1 : Byt w vb tk) (h2 : Byt w vc ab) (hk : dk.length = 32 ∧ tk.length = 32) (hn : ¬ (ab.length = 16 ∧ 0 ≤ n ∧ n ≤ 256)) :
    Calls Try.prog 7 #[.agg #[va, vb, vc], .int .i64 n] w fun e w' => e = .returned (.bool true) ∧ Below w.heap.size w w' := by
  have hta := h1.all
  have AW : Hid (∀ w0, Calls Try.prog 8 #[] w0 fun e w' => e = .returned (.bool true) ∧ Below w0.heap.size w0 w') := awake_any
  have NE : Hid (∀ av sv w0, Calls Try.prog 10 #[.pointer none, av, sv] w0 fun e w' => ∃ v, e = .returned v ∧ v = .tuple #[.slice none 0 0, .int .i64 2] ∧ w' = w0) := fun av sv w0 => (xenc_nil av sv w0).mono fun _ _ ⟨he, hw⟩ => ⟨_, he, rfl, hw⟩
  have ND : Hid (∀ av sv w0, Calls Try.prog 15 #[.pointer none, av, sv] w0 fun e w' => ∃ v, e = .returned v ∧ v = .tuple #[.slice none 0 0, .int .i64 2] ∧ w' = w0) := fun av sv w0 => (xdec_nil av sv w0).mono fun _ _ ⟨he, hw⟩ => ⟨_, he, rfl, hw⟩
  have RE : Hid (∀ c av sv w0, w0.cell? ⟨c, 0, none⟩ = some (.pointer none) → w0.cell? ⟨c, 1, none⟩ = some (.pointer none) → Byt w0 sv (List.replicate 16 0) → Calls Try.prog 10 #[.pointer (some ⟨c, 0, none⟩), av, sv] w0 fun e w' => ∃ v, e = .returned v ∧ v = .tuple #[.slice none 0 0, .int .i64 2] ∧ w' = w0) := fun c av sv w0 k0 k1 hy => (xenc_raw c av sv _ w0 k0 k1 hy).mono fun _ _ ⟨he, hw⟩ => ⟨_, he, rfl, hw⟩
  have S1 : Hid (∀ w0, Below w.heap.size w w0 → Calls Try.prog 9 #[va, vb] w0 fun e w' => ∃ c, e = .returned (.tuple #[.pointer (some ⟨c, 0, none⟩), .int .i64 0]) ∧ Cip w' c dk tk ∧ w0.heap.size ≤ c ∧ Below w0.heap.size w0 w') := fun w0 hb => xnew_any va vb dk tk w0 (h0.below hb) (h1.below hb) hk.1 hk.2
  have S2 : Hid (∀ c w0, Below w.heap.size w w0 → Cip w0 c dk tk → Calls Try.prog 17 #[.pointer (some ⟨c, 0, none⟩), vc, .int .i64 n] w0 fun e w' => e = .returned (.tuple #[.slice none 0 0, .int .i64 2]) ∧ Below w0.heap.size w0 w') := fun c w0 hb hc => by
    by_cases h16 : ab.length = 16
    · exact masks_n c vc dk tk ab n w0 hc hk.2 hta (h2.below hb) h16 (by omega)
    · exact (masks_len c vc dk tk ab n w0 hc (h2.below hb) h16).mono fun _ _ ⟨he, hw⟩ => ⟨he, by rw [hw]; exact Below.refl _ _⟩
  obtain ⟨o1, p1, rfl, -, -, -, -, -⟩ := h0
  obtain ⟨o2, p2, rfl, -, -, -, -, -⟩ := h1
  obtain ⟨o3, p3, rfl, -, -, -, -, -⟩ := h2
  rw [hk.1, hk.2] at S1 ⊢
  generalize ab.length = r at *
  have HN : Hid (¬ (r = 16 ∧ 0 ≤ n ∧ n ≤ 256)) := hn
  clear hn hk hta
  have t0 : (0 : Nat) = 0 := rfl
  go_enter Try.func7, Try.ntmps7
  go_wp2_with (first
    | (have q2 := t2; go_at_call 17; refine (S2.out _ _ BB.out C2.out).mono ?_; rintro e w3 ⟨rfl, B3⟩; have BB : Hid (Below w.heap.size w w3) := BB.out.trans (B3.mono BB.out.size); have XX : Hid (Bx w3 kb (.slice o1 32 p1) (.slice o2 32 p2) (.slice o3 r p3)) := XX.out.below B3; obtain ⟨f0, f1, f2⟩ := XX.out; clear B3 t2)
    | (have q1 := t1; go_at_call 9; refine (S1.out _ BB.out).mono ?_; rintro e w2 ⟨c2, rfl, y2, L2, B2⟩; have BB : Hid (Below w.heap.size w w2) := BB.out.trans (B2.mono BB.out.size); have C2 : Hid (Cip w2 c2 dk tk) := y2; have XX : Hid (Bx w2 kb (.slice o1 32 p1) (.slice o2 32 p2) (.slice o3 r p3)) := XX.out.below B2; obtain ⟨f0, f1, f2⟩ := XX.out; have t2 : (0 : Nat) = 0 := rfl; clear B2 y2 L2 t1)
    | (have q0 := t0; refine box_keys _ rfl (.tmp 0) rfl (.slice o1 32 p1) (.slice o2 32 p2) (.slice o3 r p3) rfl ?_; intro w1 X1 B1; obtain ⟨kb, hkb⟩ : ∃ k, k = w.heap.size := ⟨_, rfl⟩; rw [← hkb] at X1; rw [← hkb]; have BB : Hid (Below w.heap.size w w1) := B1; have XX : Hid (Bx w1 kb (.slice o1 32 p1) (.slice o2 32 p2) (.slice o3 r p3)) := X1; obtain ⟨f0, f1, f2⟩ := X1; have t1 : (0 : Nat) = 0 := rfl; clear hkb B1 t0))
  clear C2 S1 S2
  have R2 : Hid (∀ w', Below w3.heap.size w3 w' → (Instr.loadAt 22 (.pointer (some ⟨kb, 2, none⟩))).run Try.prog w' = .ok (.slice o3 r p3) w') := fun w' h => (XX.out.below h).load2
  refine wp_region_held_drew (S := fun w' => Below w3.heap.size w3 w') (by kernel_rfl) (Below.refl _ _).drew (fun hS => ?_)
  obtain ⟨x1, hx1⟩ : ∃ x, x = w3.drew := ⟨_, rfl⟩
  rw [← hx1] at hS ⊢
  clear hx1
  refine take_lawH 0 (some 35) (.pointer none) rfl rfl (by kernel_rfl) (by kernel_rfl) (by kernel_rfl) (fun _ _ _ h => h) (Or.inl ⟨by rfl, fun w' hw' => by rfl⟩) hS ?_
  simp only [Act.put, List.setIfInBounds_toArray, List.set_cons_zero, List.set_cons_succ]
  refine take_lawH 1 (some 36) (.pointer (some ⟨kb, 2, none⟩)) rfl rfl (by kernel_rfl) (by kernel_rfl) (by kernel_rfl) (fun _ _ _ h => h) (Or.inl ⟨by rfl, fun w' hw' => by go_simp⟩) hS ?_
  simp only [Act.put, List.setIfInBounds_toArray, List.set_cons_zero, List.set_cons_succ]
  refine take_lawH 2 (some 37) (.slice o3 r p3) rfl rfl (by kernel_rfl) (by kernel_rfl) (by kernel_rfl) (fun _ _ _ h => h) (Or.inl ⟨by rfl, fun w' hw' => by exact exec_load 22 (.tmp 36) rfl _ rfl _ _ (R2.out w' hw')⟩) hS ?_
  simp only [Act.put, List.setIfInBounds_toArray, List.set_cons_zero, List.set_cons_succ]
  refine wpAnyH_ready (rs := [3]) (by kernel_rfl) (by simp) ?_
  refine AllReadyH.cons rfl (fun K hK => ?_) AllReadyH.nil
  refine step_make _ rfl (some 38) rfl _ _ rfl _ (Nat.le_refl _) 16 16 rfl rfl rfl (by omega) fun x2 hx2 bx2 sx2 => ?_
  have hS : Below w3.heap.size w3 x2 := hS.trans (bx2.mono hS.size)
  clear hx2 bx2 sx2
  refine hK.out _ _ hS (fun _ => ?_)
  simp only [Act.put, List.setIfInBounds_toArray, List.set_cons_zero, List.set_cons_succ]
  clear hK K
  generalize x1.heap.size = gg1 at *
  refine wpAnyH_ready (rs := [4]) (by kernel_rfl) (by simp) ?_
  refine AllReadyH.cons rfl (fun K hK => ?_) AllReadyH.nil
  refine step_callW _ (by rfl) (some 39) rfl 10 #[.tmp 35, .tmp 37, .tmp 38] #[26, 22, 22] rfl (fun q w' => by rfl) #[.pointer none, .slice o3 r p3, .slice (some ⟨gg1, 0, none⟩) 16 16] (by simp only [List.map_toArray, List.map_cons, List.map_nil]; rfl) _ (NE.out _ _ _) ?_
  rintro _ y1 ⟨rfl, hy⟩
  obtain rfl := hy.symm
  refine hK.out _ _ hS (fun _ => ?_)
  simp only [Act.put, List.setIfInBounds_toArray, List.set_cons_zero, List.set_cons_succ]
  clear hK K
  refine take_lawH 5 (some 34) (.tuple #[.slice none 0 0, .int .i64 2]) rfl rfl (by kernel_rfl) (by kernel_rfl) (by kernel_rfl) (fun _ _ _ h => h) (Or.inl ⟨by rfl, fun w' hw' => by rfl⟩) hS ?_
  simp only [Act.put, List.setIfInBounds_toArray, List.set_cons_zero, List.set_cons_succ]
  refine take_lawH 6 (some 40) (.slice none 0 0) rfl rfl (by kernel_rfl) (by kernel_rfl) (by kernel_rfl) (fun _ _ _ h => h) (Or.inl ⟨by rfl, fun w' hw' => by rfl⟩) hS ?_
  simp only [Act.put, List.setIfInBounds_toArray, List.set_cons_zero, List.set_cons_succ]
  refine take_lawH 7 (some 41) (.int .i64 2) rfl rfl (by kernel_rfl) (by kernel_rfl) (by kernel_rfl) (fun _ _ _ h => h) (Or.inl ⟨by rfl, fun w' hw' => by rfl⟩) hS ?_
  simp only [Act.put, List.setIfInBounds_toArray, List.set_cons_zero, List.set_cons_succ]
  refine wpAnyH_ready (rs := [8]) (by kernel_rfl) (by simp) ?_
  refine AllReadyH.cons rfl (fun K hK => ?_) AllReadyH.nil
  refine step_movG _ rfl (some 10) rfl (.tmp 40) rfl (.slice none 0 0) rfl ?_
  refine hK.out _ _ hS (fun _ => ?_)
  simp only [Act.put, List.setIfInBounds_toArray, List.set_cons_zero, List.set_cons_succ]
  clear hK K
  refine wpAnyH_ready (rs := [9]) (by kernel_rfl) (by simp) ?_
  refine AllReadyH.cons rfl (fun K hK => ?_) AllReadyH.nil
  refine step_movG _ rfl (some 11) rfl (.tmp 41) rfl (.int .i64 2) rfl ?_
  refine hK.out _ _ hS (fun _ => ?_)
  simp only [Act.put, List.setIfInBounds_toArray, List.set_cons_zero, List.set_cons_succ]
  clear hK K
  refine wpAnyH_done (by kernel_rfl) ?_ _
  go_wp2
  have BB : Hid (Below w.heap.size w x2) := BB.out.trans (hS.mono BB.out.size)
  have XX : Hid (Bx x2 kb (.slice o1 32 p1) (.slice o2 32 p2) (.slice o3 r p3)) := XX.out.below hS
  have R2 : Hid (∀ w', Below x2.heap.size x2 w' → (Instr.loadAt 22 (.pointer (some ⟨kb, 2, none⟩))).run Try.prog w' = .ok (.slice o3 r p3) w') := fun w' h => (XX.out.below h).load2
  clear hS
  refine wp_region_held_drew (S := fun w' => Below x2.heap.size x2 w') (by kernel_rfl) (Below.refl _ _).drew (fun hS => ?_)
  obtain ⟨x3, hx3⟩ : ∃ x, x = x2.drew := ⟨_, rfl⟩
  rw [← hx3] at hS ⊢
  clear hx3
  refine take_lawH 0 (some 43) (.pointer none) rfl rfl (by kernel_rfl) (by kernel_rfl) (by kernel_rfl) (fun _ _ _ h => h) (Or.inl ⟨by rfl, fun w' hw' => by rfl⟩) hS ?_
  simp only [Act.put, List.setIfInBounds_toArray, List.set_cons_zero, List.set_cons_succ]
  refine take_lawH 1 (some 44) (.pointer (some ⟨kb, 2, none⟩)) rfl rfl (by kernel_rfl) (by kernel_rfl) (by kernel_rfl) (fun _ _ _ h => h) (Or.inl ⟨by rfl, fun w' hw' => by go_simp⟩) hS ?_
  simp only [Act.put, List.setIfInBounds_toArray, List.set_cons_zero, List.set_cons_succ]
  refine take_lawH 2 (some 45) (.slice o3 r p3) rfl rfl (by kernel_rfl) (by kernel_rfl) (by kernel_rfl) (fun _ _ _ h => h) (Or.inl ⟨by rfl, fun w' hw' => by exact exec_load 22 (.tmp 44) rfl _ rfl _ _ (R2.out w' hw')⟩) hS ?_
  simp only [Act.put, List.setIfInBounds_toArray, List.set_cons_zero, List.set_cons_succ]
  refine wpAnyH_ready (rs := [3]) (by kernel_rfl) (by simp) ?_
  refine AllReadyH.cons rfl (fun K hK => ?_) AllReadyH.nil
  refine step_make _ rfl (some 46) rfl _ _ rfl _ (Nat.le_refl _) 16 16 rfl rfl rfl (by omega) fun x4 hx4 bx4 sx4 => ?_
  have hS : Below x2.heap.size x2 x4 := hS.trans (bx4.mono hS.size)
  clear hx4 bx4 sx4
  refine hK.out _ _ hS (fun _ => ?_)
  simp only [Act.put, List.setIfInBounds_toArray, List.set_cons_zero, List.set_cons_succ]
  clear hK K
  generalize x3.heap.size = gg3 at *
  refine wpAnyH_ready (rs := [4]) (by kernel_rfl) (by simp) ?_
  refine AllReadyH.cons rfl (fun K hK => ?_) AllReadyH.nil
  refine step_callW _ (by rfl) (some 47) rfl 15 #[.tmp 43, .tmp 45, .tmp 46] #[26, 22, 22] rfl (fun q w' => by rfl) #[.pointer none, .slice o3 r p3, .slice (some ⟨gg3, 0, none⟩) 16 16] (by simp only [List.map_toArray, List.map_cons, List.map_nil]; rfl) _ (ND.out _ _ _) ?_
  rintro _ y3 ⟨rfl, hy⟩
  obtain rfl := hy.symm
  refine hK.out _ _ hS (fun _ => ?_)
  simp only [Act.put, List.setIfInBounds_toArray, List.set_cons_zero, List.set_cons_succ]
  clear hK K
  refine take_lawH 5 (some 42) (.tuple #[.slice none 0 0, .int .i64 2]) rfl rfl (by kernel_rfl) (by kernel_rfl) (by kernel_rfl) (fun _ _ _ h => h) (Or.inl ⟨by rfl, fun w' hw' => by rfl⟩) hS ?_
  simp only [Act.put, List.setIfInBounds_toArray, List.set_cons_zero, List.set_cons_succ]
  refine take_lawH 6 (some 48) (.slice none 0 0) rfl rfl (by kernel_rfl) (by kernel_rfl) (by kernel_rfl) (fun _ _ _ h => h) (Or.inl ⟨by rfl, fun w' hw' => by rfl⟩) hS ?_
  simp only [Act.put, List.setIfInBounds_toArray, List.set_cons_zero, List.set_cons_succ]
  refine take_lawH 7 (some 49) (.int .i64 2) rfl rfl (by kernel_rfl) (by kernel_rfl) (by kernel_rfl) (fun _ _ _ h => h) (Or.inl ⟨by rfl, fun w' hw' => by rfl⟩) hS ?_
  simp only [Act.put, List.setIfInBounds_toArray, List.set_cons_zero, List.set_cons_succ]
  refine wpAnyH_ready (rs := [8]) (by kernel_rfl) (by simp) ?_
  refine AllReadyH.cons rfl (fun K hK => ?_) AllReadyH.nil
  refine step_movG _ rfl (some 12) rfl (.tmp 48) rfl (.slice none 0 0) rfl ?_
  refine hK.out _ _ hS (fun _ => ?_)
  simp only [Act.put, List.setIfInBounds_toArray, List.set_cons_zero, List.set_cons_succ]
  clear hK K
  refine wpAnyH_ready (rs := [9]) (by kernel_rfl) (by simp) ?_
  refine AllReadyH.cons rfl (fun K hK => ?_) AllReadyH.nil
  refine step_movG _ rfl (some 13) rfl (.tmp 49) rfl (.int .i64 2) rfl ?_
  refine hK.out _ _ hS (fun _ => ?_)
  simp only [Act.put, List.setIfInBounds_toArray, List.set_cons_zero, List.set_cons_succ]
  clear hK K
  refine wpAnyH_done (by kernel_rfl) ?_ _
  go_wp2
  have BB : Hid (Below w.heap.size w x4) := BB.out.trans (hS.mono BB.out.size)
  have XX : Hid (Bx x4 kb (.slice o1 32 p1) (.slice o2 32 p2) (.slice o3 r p3)) := XX.out.below hS
  have R2 : Hid (∀ w', Below x4.heap.size x4 w' → (Instr.loadAt 22 (.pointer (some ⟨kb, 2, none⟩))).run Try.prog w' = .ok (.slice o3 r p3) w') := fun w' h => (XX.out.below h).load2
  clear hS
  go_cut [14, 15] (fun r14 r15 wc => r14 = .slice none 0 0 ∧ r15 = .int .i64 2 ∧ Below x4.heap.size x4 wc)
  case first =>
    refine wp_region_held_drew (S := fun w' => Below x4.heap.size x4 w') (by kernel_rfl) (Below.refl _ _).drew (fun hS => ?_)
    obtain ⟨x5, hx5⟩ : ∃ x, x = x4.drew := ⟨_, rfl⟩
    rw [← hx5] at hS ⊢
    clear hx5
    refine take_lawH 0 (some 51) (.agg #[.pointer none, .pointer none]) rfl rfl (by kernel_rfl) (by kernel_rfl) (by kernel_rfl) (fun _ _ _ h => h) (Or.inl ⟨by rfl, fun w' hw' => by kernel_rfl⟩) hS ?_
    simp only [Act.put, List.setIfInBounds_toArray, List.set_cons_zero, List.set_cons_succ]
    refine take_lawH 2 (some 53) (.pointer (some ⟨kb, 2, none⟩)) rfl rfl (by kernel_rfl) (by kernel_rfl) (by kernel_rfl) (fun _ _ _ h => h) (Or.inl ⟨by rfl, fun w' hw' => by go_simp⟩) hS ?_
    simp only [Act.put, List.setIfInBounds_toArray, List.set_cons_zero, List.set_cons_succ]
    refine take_lawH 3 (some 54) (.slice o3 r p3) rfl rfl (by kernel_rfl) (by kernel_rfl) (by kernel_rfl) (fun _ _ _ h => h) (Or.inl ⟨by rfl, fun w' hw' => by exact exec_load 22 (.tmp 53) rfl _ rfl _ _ (R2.out w' hw')⟩) hS ?_
    simp only [Act.put, List.setIfInBounds_toArray, List.set_cons_zero, List.set_cons_succ]
    refine wpAnyH_ready (rs := [1, 4]) (by kernel_rfl) (by simp) ?_
    refine AllReadyH.cons rfl (fun K hK => ?_) (AllReadyH.cons rfl (fun K hK => ?_) AllReadyH.nil)
    · refine step_box _ rfl (some 52) rfl (.tmp 51) 43 rfl #[.pointer none, .pointer none] rfl fun x6 cx6 bx6 => ?_
      have hS : Below x4.heap.size x4 x6 := hS.trans (bx6.mono hS.size)
      have C0 : Hid (x6.cell? ⟨x5.heap.size, 0, none⟩ = some (.pointer none) ∧ x6.cell? ⟨x5.heap.size, 1, none⟩ = some (.pointer none)) := ⟨cx6 0 _ rfl, cx6 1 _ rfl⟩
      refine hK.out _ _ hS (fun _ => ?_)
      simp only [Act.put, List.setIfInBounds_toArray, List.set_cons_zero, List.set_cons_succ]
      clear hK K
      have lt1 : x5.heap.size < x6.heap.size := World.block_lt_of_cell? _ _ C0.out.1
      generalize x5.heap.size = gg at *
      refine wpAnyH_ready (rs := [4]) (by kernel_rfl) (by simp) ?_
      refine AllReadyH.cons rfl (fun K hK => ?_) AllReadyH.nil
      refine step_make _ rfl (some 55) rfl _ _ rfl _ (Nat.le_refl _) 16 16 rfl rfl rfl (by omega) fun x7 hx7 bx7 sx7 => ?_
      have hS : Below x4.heap.size x4 x7 := hS.trans (bx7.mono hS.size)
      have YM : Hid (Byt x7 (.slice (some ⟨x6.heap.size, 0, none⟩) 16 16) (List.replicate 16 0)) := OwnN.zero hx7 rfl
      have C0 : Hid (x7.cell? ⟨gg, 0, none⟩ = some (.pointer none) ∧ x7.cell? ⟨gg, 1, none⟩ = some (.pointer none)) := ⟨(bx7.cell lt1).trans C0.out.1, (bx7.cell lt1).trans C0.out.2⟩
      refine hK.out _ _ hS (fun _ => ?_)
      simp only [Act.put, List.setIfInBounds_toArray, List.set_cons_zero, List.set_cons_succ]
      clear hK K
      generalize x6.heap.size = gm at *
      refine wpAnyH_ready (rs := [5]) (by kernel_rfl) (by simp) ?_
      refine AllReadyH.cons rfl (fun K hK => ?_) AllReadyH.nil
      refine step_callW _ (by rfl) (some 56) rfl 10 #[.tmp 52, .tmp 54, .tmp 55] #[26, 22, 22] rfl (fun q w' => by rfl) #[.pointer (some ⟨gg, 0, none⟩), .slice o3 r p3, .slice (some ⟨gm, 0, none⟩) 16 16] (by simp only [List.map_toArray, List.map_cons, List.map_nil]; rfl) _ (RE.out _ _ _ _ C0.out.1 C0.out.2 YM.out) ?_
      rintro _ yz ⟨rfl, hy⟩
      obtain rfl := hy.symm
      refine hK.out _ _ hS (fun _ => ?_)
      simp only [Act.put, List.setIfInBounds_toArray, List.set_cons_zero, List.set_cons_succ]
      clear hK K
      refine take_lawH 6 (some 50) (.tuple #[.slice none 0 0, .int .i64 2]) rfl rfl (by kernel_rfl) (by kernel_rfl) (by kernel_rfl) (fun _ _ _ h => h) (Or.inl ⟨by rfl, fun w' hw' => by rfl⟩) hS ?_
      simp only [Act.put, List.setIfInBounds_toArray, List.set_cons_zero, List.set_cons_succ]
      refine take_lawH 7 (some 57) (.slice none 0 0) rfl rfl (by kernel_rfl) (by kernel_rfl) (by kernel_rfl) (fun _ _ _ h => h) (Or.inl ⟨by rfl, fun w' hw' => by rfl⟩) hS ?_
      simp only [Act.put, List.setIfInBounds_toArray, List.set_cons_zero, List.set_cons_succ]
      refine take_lawH 8 (some 58) (.int .i64 2) rfl rfl (by kernel_rfl) (by kernel_rfl) (by kernel_rfl) (fun _ _ _ h => h) (Or.inl ⟨by rfl, fun w' hw' => by rfl⟩) hS ?_
      simp only [Act.put, List.setIfInBounds_toArray, List.set_cons_zero, List.set_cons_succ]
      refine wpAnyH_ready (rs := [9]) (by kernel_rfl) (by simp) ?_
      refine AllReadyH.cons rfl (fun K hK => ?_) AllReadyH.nil
      refine step_movG _ rfl (some 14) rfl (.tmp 57) rfl (.slice none 0 0) rfl ?_
      refine hK.out _ _ hS (fun _ => ?_)
      simp only [Act.put, List.setIfInBounds_toArray, List.set_cons_zero, List.set_cons_succ]
      clear hK K
      refine wpAnyH_ready (rs := [10]) (by kernel_rfl) (by simp) ?_
      refine AllReadyH.cons rfl (fun K hK => ?_) AllReadyH.nil
      refine step_movG _ rfl (some 15) rfl (.tmp 58) rfl (.int .i64 2) rfl ?_
      refine hK.out _ _ hS (fun _ => ?_)
      simp only [Act.put, List.setIfInBounds_toArray, List.set_cons_zero, List.set_cons_succ]
      clear hK K
      refine wpAnyH_done (by kernel_rfl) ?_ _
      go_wp2_with fail
      go_meet
      exact ⟨rfl, rfl, hS⟩
    · refine step_make _ rfl (some 55) rfl _ _ rfl _ (Nat.le_refl _) 16 16 rfl rfl rfl (by omega) fun x6 hx6 bx6 sx6 => ?_
      have hS : Below x4.heap.size x4 x6 := hS.trans (bx6.mono hS.size)
      have YM : Hid (Byt x6 (.slice (some ⟨x5.heap.size, 0, none⟩) 16 16) (List.replicate 16 0)) := OwnN.zero hx6 rfl
      refine hK.out _ _ hS (fun _ => ?_)
      simp only [Act.put, List.setIfInBounds_toArray, List.set_cons_zero, List.set_cons_succ]
      clear hK K
      generalize x5.heap.size = gm at *
      refine wpAnyH_ready (rs := [1]) (by kernel_rfl) (by simp) ?_
      refine AllReadyH.cons rfl (fun K hK => ?_) AllReadyH.nil
      refine step_box _ rfl (some 52) rfl (.tmp 51) 43 rfl #[.pointer none, .pointer none] rfl fun x7 cx7 bx7 => ?_
      have hS : Below x4.heap.size x4 x7 := hS.trans (bx7.mono hS.size)
      have C0 : Hid (x7.cell? ⟨x6.heap.size, 0, none⟩ = some (.pointer none) ∧ x7.cell? ⟨x6.heap.size, 1, none⟩ = some (.pointer none)) := ⟨cx7 0 _ rfl, cx7 1 _ rfl⟩
      have YM : Hid (Byt x7 (.slice (some ⟨gm, 0, none⟩) 16 16) (List.replicate 16 0)) := YM.out.below bx7
      refine hK.out _ _ hS (fun _ => ?_)
      simp only [Act.put, List.setIfInBounds_toArray, List.set_cons_zero, List.set_cons_succ]
      clear hK K
      generalize x6.heap.size = gg at *
      refine wpAnyH_ready (rs := [5]) (by kernel_rfl) (by simp) ?_
      refine AllReadyH.cons rfl (fun K hK => ?_) AllReadyH.nil
      refine step_callW _ (by rfl) (some 56) rfl 10 #[.tmp 52, .tmp 54, .tmp 55] #[26, 22, 22] rfl (fun q w' => by rfl) #[.pointer (some ⟨gg, 0, none⟩), .slice o3 r p3, .slice (some ⟨gm, 0, none⟩) 16 16] (by simp only [List.map_toArray, List.map_cons, List.map_nil]; rfl) _ (RE.out _ _ _ _ C0.out.1 C0.out.2 YM.out) ?_
      rintro _ yz ⟨rfl, hy⟩
      obtain rfl := hy.symm
      refine hK.out _ _ hS (fun _ => ?_)
      simp only [Act.put, List.setIfInBounds_toArray, List.set_cons_zero, List.set_cons_succ]
      clear hK K
      refine take_lawH 6 (some 50) (.tuple #[.slice none 0 0, .int .i64 2]) rfl rfl (by kernel_rfl) (by kernel_rfl) (by kernel_rfl) (fun _ _ _ h => h) (Or.inl ⟨by rfl, fun w' hw' => by rfl⟩) hS ?_
      simp only [Act.put, List.setIfInBounds_toArray, List.set_cons_zero, List.set_cons_succ]
      refine take_lawH 7 (some 57) (.slice none 0 0) rfl rfl (by kernel_rfl) (by kernel_rfl) (by kernel_rfl) (fun _ _ _ h => h) (Or.inl ⟨by rfl, fun w' hw' => by rfl⟩) hS ?_
      simp only [Act.put, List.setIfInBounds_toArray, List.set_cons_zero, List.set_cons_succ]
      refine take_lawH 8 (some 58) (.int .i64 2) rfl rfl (by kernel_rfl) (by kernel_rfl) (by kernel_rfl) (fun _ _ _ h => h) (Or.inl ⟨by rfl, fun w' hw' => by rfl⟩) hS ?_
      simp only [Act.put, List.setIfInBounds_toArray, List.set_cons_zero, List.set_cons_succ]
      refine wpAnyH_ready (rs := [9]) (by kernel_rfl) (by simp) ?_
      refine AllReadyH.cons rfl (fun K hK => ?_) AllReadyH.nil
      refine step_movG _ rfl (some 14) rfl (.tmp 57) rfl (.slice none 0 0) rfl ?_
      refine hK.out _ _ hS (fun _ => ?_)
      simp only [Act.put, List.setIfInBounds_toArray, List.set_cons_zero, List.set_cons_succ]
      clear hK K
      refine wpAnyH_ready (rs := [10]) (by kernel_rfl) (by simp) ?_
      refine AllReadyH.cons rfl (fun K hK => ?_) AllReadyH.nil
      refine step_movG _ rfl (some 15) rfl (.tmp 58) rfl (.int .i64 2) rfl ?_
      refine hK.out _ _ hS (fun _ => ?_)
      simp only [Act.put, List.setIfInBounds_toArray, List.set_cons_zero, List.set_cons_succ]
      clear hK K
      refine wpAnyH_done (by kernel_rfl) ?_ _
      go_wp2_with fail
      go_meet
      exact ⟨rfl, rfl, hS⟩
  case rest =>
    obtain ⟨rfl, rfl, hS⟩ := hcut
    have BB : Hid (Below w.heap.size w wc) := BB.out.trans (hS.mono BB.out.size)
    have XX : Hid (Bx wc kb (.slice o1 32 p1) (.slice o2 32 p2) (.slice o3 r p3)) := XX.out.below hS
    obtain ⟨f0, f1, f2⟩ := XX.out
    clear hS R2 RE NE ND
    by_cases e1 : r = 16
    · subst e1
      by_cases e2 : n < 0
      · go_wp2_with (go_at_call 8; refine (AW.out _).mono ?_; rintro e w9 ⟨rfl, B9⟩)
        go_ret
        exact ⟨rfl, BB.out.trans (B9.mono BB.out.size)⟩
      · have l1 : (256 : Int) < n := by have := HN.out; omega
        have l2 : ¬ (n < 0) := e2
        go_wp2_with (go_at_call 8; refine (AW.out _).mono ?_; rintro e w9 ⟨rfl, B9⟩)
        go_ret
        exact ⟨rfl, BB.out.trans (B9.mono BB.out.size)⟩
    · have l1 : ((r : Int) != 16) = true := by simp; omega
      go_wp2_with (go_at_call 8; refine (AW.out _).mono ?_; rintro e w9 ⟨rfl, B9⟩)
      go_ret
      exact ⟨rfl, BB.out.trans (B9.mono BB.out.size)⟩

set_option linter.unusedSimpArgs false in
set_option maxRecDepth 20000 in
set_option maxHeartbeats 8000000 in
theorem walk_yes (va : Value) (dk : List Int) (vb : Value) (tk : List Int) (vc : Value) (ab : List Int) (N : Nat) (w : World) (h0 : Byt w va dk) (h1 : Byt w vb tk) (h2 : Byt w vc ab) (hk : dk.length = 32 ∧ tk.length = 32) (hal : ab.length = 16) (hN : N ≤ 256) :
    Calls Try.prog 7 #[.agg #[va, vb, vc], .int .i64 (N : Int)] w fun e w' => e = .returned (.bool true) ∧ Below w.heap.size w w' := by
  have hta := h1.all
  have zb := encr_blk tk hk.2 hta ab ⟨hal, h2.all⟩
  have ML : nm16 (encr tk ab) < 2 ^ 128 := nm16_lt _ zb.2
  have AW : Hid (∀ w0, Calls Try.prog 8 #[] w0 fun e w' => e = .returned (.bool true) ∧ Below w0.heap.size w0 w') := awake_any
  have NE : Hid (∀ av sv w0, Calls Try.prog 10 #[.pointer none, av, sv] w0 fun e w' => ∃ v, e = .returned v ∧ v = .tuple #[.slice none 0 0, .int .i64 2] ∧ w' = w0) := fun av sv w0 => (xenc_nil av sv w0).mono fun _ _ ⟨he, hw⟩ => ⟨_, he, rfl, hw⟩
  have ND : Hid (∀ av sv w0, Calls Try.prog 15 #[.pointer none, av, sv] w0 fun e w' => ∃ v, e = .returned v ∧ v = .tuple #[.slice none 0 0, .int .i64 2] ∧ w' = w0) := fun av sv w0 => (xdec_nil av sv w0).mono fun _ _ ⟨he, hw⟩ => ⟨_, he, rfl, hw⟩
  have RE : Hid (∀ c av sv w0, w0.cell? ⟨c, 0, none⟩ = some (.pointer none) → w0.cell? ⟨c, 1, none⟩ = some (.pointer none) → Byt w0 sv (List.replicate 16 0) → Calls Try.prog 10 #[.pointer (some ⟨c, 0, none⟩), av, sv] w0 fun e w' => ∃ v, e = .returned v ∧ v = .tuple #[.slice none 0 0, .int .i64 2] ∧ w' = w0) := fun c av sv w0 k0 k1 hy => (xenc_raw c av sv _ w0 k0 k1 hy).mono fun _ _ ⟨he, hw⟩ => ⟨_, he, rfl, hw⟩
  have S1 : Hid (∀ w0, Below w.heap.size w w0 → Calls Try.prog 9 #[va, vb] w0 fun e w' => ∃ c, e = .returned (.tuple #[.pointer (some ⟨c, 0, none⟩), .int .i64 0]) ∧ Cip w' c dk tk ∧ w0.heap.size ≤ c ∧ Below w0.heap.size w0 w') := fun w0 hb => xnew_any va vb dk tk w0 (h0.below hb) (h1.below hb) hk.1 hk.2
  have S2 : Hid (∀ c w0, Below w.heap.size w w0 → Cip w0 c dk tk → Calls Try.prog 17 #[.pointer (some ⟨c, 0, none⟩), vc, .int .i64 (N : Int)] w0 fun e w' => ∃ g, e = .returned (.tuple #[.slice (some ⟨g, 0, none⟩) N N, .int .i64 0]) ∧ Msks w' g N (nm16 (encr tk ab)) ∧ w0.heap.size ≤ g ∧ Below w0.heap.size w0 w') := fun c w0 hb hc => masks_any c vc dk tk ab N w0 hc hk.2 hta (h2.below hb) hal hN
  have S4 : Hid (∀ w0, Calls Try.prog 14 #[] w0 fun e w' => ∃ v, e = .returned v ∧ Byt w' v ptab ∧ Below w0.heap.size w0 w') := rtable_any
  have S5 : Hid (∀ tv w0, Below w.heap.size w w0 → Byt w0 tv ptab → Calls Try.prog 18 #[vb, vc, tv] w0 fun e w' => ∃ v', e = .returned v' ∧ Byt w' v' (msk (nm16 (encr tk ab)) 0) ∧ Below w0.heap.size w0 w') := fun tv w0 hb ht => by
    have := rencrypt_any vb vc tv tk ab w0 (h1.below hb) hk.2 (h2.below hb) hal ht
    rw [msk_zero _ zb]; exact this
  have S6 : Hid (∀ k w' u, Byt w' u (msk (nm16 (encr tk ab)) k) → Calls Try.prog 19 #[u] w' fun e w'' => ∃ v', e = .returned v' ∧ Byt w'' v' (msk (nm16 (encr tk ab)) (k + 1)) ∧ Below w'.heap.size w' w'') := fun k w' u h => by
    have := tw.rdouble_any u _ w' h (msk_blk _ k).1
    rwa [msk_next _ k ML] at this
  have S7 : Hid (∀ k w' u v, Byt w' u (msk (nm16 (encr tk ab)) k) → Byt w' v (msk (nm16 (encr tk ab)) k) → Calls Try.prog 12 #[u, v] w' fun e w'' => e = .returned (.bool true) ∧ Below w'.heap.size w' w'') := fun k w' u v hu hv => same_yes w' u v _ hu hv
  have MA : Hid (∀ g w', Msks w' g N (nm16 (encr tk ab)) → ∀ k, k < N → ∃ gi, w'.cell? ⟨g, k, none⟩ = some (.slice (some ⟨gi, 0, none⟩) 16 16) ∧ Byt w' (.slice (some ⟨gi, 0, none⟩) 16 16) (msk (nm16 (encr tk ab)) k)) := fun g w' h k hk => h.at_ k hk
  obtain ⟨o1, p1, rfl, -, -, -, -, -⟩ := h0
  obtain ⟨o2, p2, rfl, -, -, -, -, -⟩ := h1
  obtain ⟨o3, p3, rfl, -, -, -, -, -⟩ := h2
  rw [hk.1, hk.2] at S1 ⊢
  rw [hk.2] at S5
  rw [hal] at S2 S5 ⊢
  generalize nm16 (encr tk ab) = M at *
  obtain ⟨ms, hms⟩ : ∃ ms : Nat → List Int, ms = fun k => msk M k := ⟨_, rfl⟩
  have em : ∀ k, msk M k = ms k := fun k => by rw [hms]
  simp only [em] at S5 S6 S7 MA
  clear em hms
  generalize ptab = tab at *
  have n0 : ¬ ((N : Int) < 0) := by omega
  have n1 : ¬ ((256 : Int) < (N : Int)) := by omega
  clear hal hk hta zb ML hN
  have t0 : (0 : Nat) = 0 := rfl
  go_enter Try.func7, Try.ntmps7
  go_wp2_with (first
    | (have q2 := t2; go_at_call 17; refine (S2.out _ _ BB.out C2.out).mono ?_; rintro e w3 ⟨g3, rfl, y3, L3, B3⟩; have MM : Hid (Msks w3 g3 N M) := y3; have BB : Hid (Below w.heap.size w w3) := BB.out.trans (B3.mono BB.out.size); have XX : Hid (Bx w3 kb (.slice o1 32 p1) (.slice o2 32 p2) (.slice o3 16 p3)) := XX.out.below B3; obtain ⟨f0, f1, f2⟩ := XX.out; clear B3 t2 y3 L3)
    | (have q1 := t1; go_at_call 9; refine (S1.out _ BB.out).mono ?_; rintro e w2 ⟨c2, rfl, y2, L2, B2⟩; have BB : Hid (Below w.heap.size w w2) := BB.out.trans (B2.mono BB.out.size); have C2 : Hid (Cip w2 c2 dk tk) := y2; have XX : Hid (Bx w2 kb (.slice o1 32 p1) (.slice o2 32 p2) (.slice o3 16 p3)) := XX.out.below B2; obtain ⟨f0, f1, f2⟩ := XX.out; have t2 : (0 : Nat) = 0 := rfl; clear B2 y2 L2 t1)
    | (have q0 := t0; refine box_keys _ rfl (.tmp 0) rfl (.slice o1 32 p1) (.slice o2 32 p2) (.slice o3 16 p3) rfl ?_; intro w1 X1 B1; obtain ⟨kb, hkb⟩ : ∃ k, k = w.heap.size := ⟨_, rfl⟩; rw [← hkb] at X1; rw [← hkb]; have BB : Hid (Below w.heap.size w w1) := B1; have XX : Hid (Bx w1 kb (.slice o1 32 p1) (.slice o2 32 p2) (.slice o3 16 p3)) := X1; obtain ⟨f0, f1, f2⟩ := X1; have t1 : (0 : Nat) = 0 := rfl; clear hkb B1 t0))
  clear C2 S1 S2
  have R2 : Hid (∀ w', Below w3.heap.size w3 w' → (Instr.loadAt 22 (.pointer (some ⟨kb, 2, none⟩))).run Try.prog w' = .ok (.slice o3 16 p3) w') := fun w' h => (XX.out.below h).load2
  refine wp_region_held_drew (S := fun w' => Below w3.heap.size w3 w') (by kernel_rfl) (Below.refl _ _).drew (fun hS => ?_)
  obtain ⟨x1, hx1⟩ : ∃ x, x = w3.drew := ⟨_, rfl⟩
  rw [← hx1] at hS ⊢
  clear hx1
  refine take_lawH 0 (some 35) (.pointer none) rfl rfl (by kernel_rfl) (by kernel_rfl) (by kernel_rfl) (fun _ _ _ h => h) (Or.inl ⟨by rfl, fun w' hw' => by rfl⟩) hS ?_
  simp only [Act.put, List.setIfInBounds_toArray, List.set_cons_zero, List.set_cons_succ]
  refine take_lawH 1 (some 36) (.pointer (some ⟨kb, 2, none⟩)) rfl rfl (by kernel_rfl) (by kernel_rfl) (by kernel_rfl) (fun _ _ _ h => h) (Or.inl ⟨by rfl, fun w' hw' => by go_simp⟩) hS ?_
  simp only [Act.put, List.setIfInBounds_toArray, List.set_cons_zero, List.set_cons_succ]
  refine take_lawH 2 (some 37) (.slice o3 16 p3) rfl rfl (by kernel_rfl) (by kernel_rfl) (by kernel_rfl) (fun _ _ _ h => h) (Or.inl ⟨by rfl, fun w' hw' => by exact exec_load 22 (.tmp 36) rfl _ rfl _ _ (R2.out w' hw')⟩) hS ?_
  simp only [Act.put, List.setIfInBounds_toArray, List.set_cons_zero, List.set_cons_succ]
  refine wpAnyH_ready (rs := [3]) (by kernel_rfl) (by simp) ?_
  refine AllReadyH.cons rfl (fun K hK => ?_) AllReadyH.nil
  refine step_make _ rfl (some 38) rfl _ _ rfl _ (Nat.le_refl _) 16 16 rfl rfl rfl (by omega) fun x2 hx2 bx2 sx2 => ?_
  have hS : Below w3.heap.size w3 x2 := hS.trans (bx2.mono hS.size)
  clear hx2 bx2 sx2
  refine hK.out _ _ hS (fun _ => ?_)
  simp only [Act.put, List.setIfInBounds_toArray, List.set_cons_zero, List.set_cons_succ]
  clear hK K
  generalize x1.heap.size = gg1 at *
  refine wpAnyH_ready (rs := [4]) (by kernel_rfl) (by simp) ?_
  refine AllReadyH.cons rfl (fun K hK => ?_) AllReadyH.nil
  refine step_callW _ (by rfl) (some 39) rfl 10 #[.tmp 35, .tmp 37, .tmp 38] #[26, 22, 22] rfl (fun q w' => by rfl) #[.pointer none, .slice o3 16 p3, .slice (some ⟨gg1, 0, none⟩) 16 16] (by simp only [List.map_toArray, List.map_cons, List.map_nil]; rfl) _ (NE.out _ _ _) ?_
  rintro _ y1 ⟨rfl, hy⟩
  obtain rfl := hy.symm
  refine hK.out _ _ hS (fun _ => ?_)
  simp only [Act.put, List.setIfInBounds_toArray, List.set_cons_zero, List.set_cons_succ]
  clear hK K
  refine take_lawH 5 (some 34) (.tuple #[.slice none 0 0, .int .i64 2]) rfl rfl (by kernel_rfl) (by kernel_rfl) (by kernel_rfl) (fun _ _ _ h => h) (Or.inl ⟨by rfl, fun w' hw' => by rfl⟩) hS ?_
  simp only [Act.put, List.setIfInBounds_toArray, List.set_cons_zero, List.set_cons_succ]
  refine take_lawH 6 (some 40) (.slice none 0 0) rfl rfl (by kernel_rfl) (by kernel_rfl) (by kernel_rfl) (fun _ _ _ h => h) (Or.inl ⟨by rfl, fun w' hw' => by rfl⟩) hS ?_
  simp only [Act.put, List.setIfInBounds_toArray, List.set_cons_zero, List.set_cons_succ]
  refine take_lawH 7 (some 41) (.int .i64 2) rfl rfl (by kernel_rfl) (by kernel_rfl) (by kernel_rfl) (fun _ _ _ h => h) (Or.inl ⟨by rfl, fun w' hw' => by rfl⟩) hS ?_
  simp only [Act.put, List.setIfInBounds_toArray, List.set_cons_zero, List.set_cons_succ]
  refine wpAnyH_ready (rs := [8]) (by kernel_rfl) (by simp) ?_
  refine AllReadyH.cons rfl (fun K hK => ?_) AllReadyH.nil
  refine step_movG _ rfl (some 10) rfl (.tmp 40) rfl (.slice none 0 0) rfl ?_
  refine hK.out _ _ hS (fun _ => ?_)
  simp only [Act.put, List.setIfInBounds_toArray, List.set_cons_zero, List.set_cons_succ]
  clear hK K
  refine wpAnyH_ready (rs := [9]) (by kernel_rfl) (by simp) ?_
  refine AllReadyH.cons rfl (fun K hK => ?_) AllReadyH.nil
  refine step_movG _ rfl (some 11) rfl (.tmp 41) rfl (.int .i64 2) rfl ?_
  refine hK.out _ _ hS (fun _ => ?_)
  simp only [Act.put, List.setIfInBounds_toArray, List.set_cons_zero, List.set_cons_succ]
  clear hK K
  refine wpAnyH_done (by kernel_rfl) ?_ _
  go_wp2
  have BB : Hid (Below w.heap.size w x2) := BB.out.trans (hS.mono BB.out.size)
  have XX : Hid (Bx x2 kb (.slice o1 32 p1) (.slice o2 32 p2) (.slice o3 16 p3)) := XX.out.below hS
  have R2 : Hid (∀ w', Below x2.heap.size x2 w' → (Instr.loadAt 22 (.pointer (some ⟨kb, 2, none⟩))).run Try.prog w' = .ok (.slice o3 16 p3) w') := fun w' h => (XX.out.below h).load2
  have MM : Hid (Msks x2 g3 N M) := MM.out.below hS
  clear hS
  refine wp_region_held_drew (S := fun w' => Below x2.heap.size x2 w') (by kernel_rfl) (Below.refl _ _).drew (fun hS => ?_)
  obtain ⟨x3, hx3⟩ : ∃ x, x = x2.drew := ⟨_, rfl⟩
  rw [← hx3] at hS ⊢
  clear hx3
  refine take_lawH 0 (some 43) (.pointer none) rfl rfl (by kernel_rfl) (by kernel_rfl) (by kernel_rfl) (fun _ _ _ h => h) (Or.inl ⟨by rfl, fun w' hw' => by rfl⟩) hS ?_
  simp only [Act.put, List.setIfInBounds_toArray, List.set_cons_zero, List.set_cons_succ]
  refine take_lawH 1 (some 44) (.pointer (some ⟨kb, 2, none⟩)) rfl rfl (by kernel_rfl) (by kernel_rfl) (by kernel_rfl) (fun _ _ _ h => h) (Or.inl ⟨by rfl, fun w' hw' => by go_simp⟩) hS ?_
  simp only [Act.put, List.setIfInBounds_toArray, List.set_cons_zero, List.set_cons_succ]
  refine take_lawH 2 (some 45) (.slice o3 16 p3) rfl rfl (by kernel_rfl) (by kernel_rfl) (by kernel_rfl) (fun _ _ _ h => h) (Or.inl ⟨by rfl, fun w' hw' => by exact exec_load 22 (.tmp 44) rfl _ rfl _ _ (R2.out w' hw')⟩) hS ?_
  simp only [Act.put, List.setIfInBounds_toArray, List.set_cons_zero, List.set_cons_succ]
  refine wpAnyH_ready (rs := [3]) (by kernel_rfl) (by simp) ?_
  refine AllReadyH.cons rfl (fun K hK => ?_) AllReadyH.nil
  refine step_make _ rfl (some 46) rfl _ _ rfl _ (Nat.le_refl _) 16 16 rfl rfl rfl (by omega) fun x4 hx4 bx4 sx4 => ?_
  have hS : Below x2.heap.size x2 x4 := hS.trans (bx4.mono hS.size)
  clear hx4 bx4 sx4
  refine hK.out _ _ hS (fun _ => ?_)
  simp only [Act.put, List.setIfInBounds_toArray, List.set_cons_zero, List.set_cons_succ]
  clear hK K
  generalize x3.heap.size = gg3 at *
  refine wpAnyH_ready (rs := [4]) (by kernel_rfl) (by simp) ?_
  refine AllReadyH.cons rfl (fun K hK => ?_) AllReadyH.nil
  refine step_callW _ (by rfl) (some 47) rfl 15 #[.tmp 43, .tmp 45, .tmp 46] #[26, 22, 22] rfl (fun q w' => by rfl) #[.pointer none, .slice o3 16 p3, .slice (some ⟨gg3, 0, none⟩) 16 16] (by simp only [List.map_toArray, List.map_cons, List.map_nil]; rfl) _ (ND.out _ _ _) ?_
  rintro _ y3 ⟨rfl, hy⟩
  obtain rfl := hy.symm
  refine hK.out _ _ hS (fun _ => ?_)
  simp only [Act.put, List.setIfInBounds_toArray, List.set_cons_zero, List.set_cons_succ]
  clear hK K
  refine take_lawH 5 (some 42) (.tuple #[.slice none 0 0, .int .i64 2]) rfl rfl (by kernel_rfl) (by kernel_rfl) (by kernel_rfl) (fun _ _ _ h => h) (Or.inl ⟨by rfl, fun w' hw' => by rfl⟩) hS ?_
  simp only [Act.put, List.setIfInBounds_toArray, List.set_cons_zero, List.set_cons_succ]
  refine take_lawH 6 (some 48) (.slice none 0 0) rfl rfl (by kernel_rfl) (by kernel_rfl) (by kernel_rfl) (fun _ _ _ h => h) (Or.inl ⟨by rfl, fun w' hw' => by rfl⟩) hS ?_
  simp only [Act.put, List.setIfInBounds_toArray, List.set_cons_zero, List.set_cons_succ]
  refine take_lawH 7 (some 49) (.int .i64 2) rfl rfl (by kernel_rfl) (by kernel_rfl) (by kernel_rfl) (fun _ _ _ h => h) (Or.inl ⟨by rfl, fun w' hw' => by rfl⟩) hS ?_
  simp only [Act.put, List.setIfInBounds_toArray, List.set_cons_zero, List.set_cons_succ]
  refine wpAnyH_ready (rs := [8]) (by kernel_rfl) (by simp) ?_
  refine AllReadyH.cons rfl (fun K hK => ?_) AllReadyH.nil
  refine step_movG _ rfl (some 12) rfl (.tmp 48) rfl (.slice none 0 0) rfl ?_
  refine hK.out _ _ hS (fun _ => ?_)
  simp only [Act.put, List.setIfInBounds_toArray, List.set_cons_zero, List.set_cons_succ]
  clear hK K
  refine wpAnyH_ready (rs := [9]) (by kernel_rfl) (by simp) ?_
  refine AllReadyH.cons rfl (fun K hK => ?_) AllReadyH.nil
  refine step_movG _ rfl (some 13) rfl (.tmp 49) rfl (.int .i64 2) rfl ?_
  refine hK.out _ _ hS (fun _ => ?_)
  simp only [Act.put, List.setIfInBounds_toArray, List.set_cons_zero, List.set_cons_succ]
  clear hK K
  refine wpAnyH_done (by kernel_rfl) ?_ _
  go_wp2
  have BB : Hid (Below w.heap.size w x4) := BB.out.trans (hS.mono BB.out.size)
  have XX : Hid (Bx x4 kb (.slice o1 32 p1) (.slice o2 32 p2) (.slice o3 16 p3)) := XX.out.below hS
  have R2 : Hid (∀ w', Below x4.heap.size x4 w' → (Instr.loadAt 22 (.pointer (some ⟨kb, 2, none⟩))).run Try.prog w' = .ok (.slice o3 16 p3) w') := fun w' h => (XX.out.below h).load2
  have MM : Hid (Msks x4 g3 N M) := MM.out.below hS
  clear hS
  go_cut [14, 15] (fun r14 r15 wc => r14 = .slice none 0 0 ∧ r15 = .int .i64 2 ∧ Below x4.heap.size x4 wc)
  case first =>
    refine wp_region_held_drew (S := fun w' => Below x4.heap.size x4 w') (by kernel_rfl) (Below.refl _ _).drew (fun hS => ?_)
    obtain ⟨x5, hx5⟩ : ∃ x, x = x4.drew := ⟨_, rfl⟩
    rw [← hx5] at hS ⊢
    clear hx5
    refine take_lawH 0 (some 51) (.agg #[.pointer none, .pointer none]) rfl rfl (by kernel_rfl) (by kernel_rfl) (by kernel_rfl) (fun _ _ _ h => h) (Or.inl ⟨by rfl, fun w' hw' => by kernel_rfl⟩) hS ?_
    simp only [Act.put, List.setIfInBounds_toArray, List.set_cons_zero, List.set_cons_succ]
    refine take_lawH 2 (some 53) (.pointer (some ⟨kb, 2, none⟩)) rfl rfl (by kernel_rfl) (by kernel_rfl) (by kernel_rfl) (fun _ _ _ h => h) (Or.inl ⟨by rfl, fun w' hw' => by go_simp⟩) hS ?_
    simp only [Act.put, List.setIfInBounds_toArray, List.set_cons_zero, List.set_cons_succ]
    refine take_lawH 3 (some 54) (.slice o3 16 p3) rfl rfl (by kernel_rfl) (by kernel_rfl) (by kernel_rfl) (fun _ _ _ h => h) (Or.inl ⟨by rfl, fun w' hw' => by exact exec_load 22 (.tmp 53) rfl _ rfl _ _ (R2.out w' hw')⟩) hS ?_
    simp only [Act.put, List.setIfInBounds_toArray, List.set_cons_zero, List.set_cons_succ]
    refine wpAnyH_ready (rs := [1, 4]) (by kernel_rfl) (by simp) ?_
    refine AllReadyH.cons rfl (fun K hK => ?_) (AllReadyH.cons rfl (fun K hK => ?_) AllReadyH.nil)
    · refine step_box _ rfl (some 52) rfl (.tmp 51) 43 rfl #[.pointer none, .pointer none] rfl fun x6 cx6 bx6 => ?_
      have hS : Below x4.heap.size x4 x6 := hS.trans (bx6.mono hS.size)
      have C0 : Hid (x6.cell? ⟨x5.heap.size, 0, none⟩ = some (.pointer none) ∧ x6.cell? ⟨x5.heap.size, 1, none⟩ = some (.pointer none)) := ⟨cx6 0 _ rfl, cx6 1 _ rfl⟩
      refine hK.out _ _ hS (fun _ => ?_)
      simp only [Act.put, List.setIfInBounds_toArray, List.set_cons_zero, List.set_cons_succ]
      clear hK K
      have lt1 : x5.heap.size < x6.heap.size := World.block_lt_of_cell? _ _ C0.out.1
      generalize x5.heap.size = gg at *
      refine wpAnyH_ready (rs := [4]) (by kernel_rfl) (by simp) ?_
      refine AllReadyH.cons rfl (fun K hK => ?_) AllReadyH.nil
      refine step_make _ rfl (some 55) rfl _ _ rfl _ (Nat.le_refl _) 16 16 rfl rfl rfl (by omega) fun x7 hx7 bx7 sx7 => ?_
      have hS : Below x4.heap.size x4 x7 := hS.trans (bx7.mono hS.size)
      have YM : Hid (Byt x7 (.slice (some ⟨x6.heap.size, 0, none⟩) 16 16) (List.replicate 16 0)) := OwnN.zero hx7 rfl
      have C0 : Hid (x7.cell? ⟨gg, 0, none⟩ = some (.pointer none) ∧ x7.cell? ⟨gg, 1, none⟩ = some (.pointer none)) := ⟨(bx7.cell lt1).trans C0.out.1, (bx7.cell lt1).trans C0.out.2⟩
      refine hK.out _ _ hS (fun _ => ?_)
      simp only [Act.put, List.setIfInBounds_toArray, List.set_cons_zero, List.set_cons_succ]
      clear hK K
      generalize x6.heap.size = gm at *
      refine wpAnyH_ready (rs := [5]) (by kernel_rfl) (by simp) ?_
      refine AllReadyH.cons rfl (fun K hK => ?_) AllReadyH.nil
      refine step_callW _ (by rfl) (some 56) rfl 10 #[.tmp 52, .tmp 54, .tmp 55] #[26, 22, 22] rfl (fun q w' => by rfl) #[.pointer (some ⟨gg, 0, none⟩), .slice o3 16 p3, .slice (some ⟨gm, 0, none⟩) 16 16] (by simp only [List.map_toArray, List.map_cons, List.map_nil]; rfl) _ (RE.out _ _ _ _ C0.out.1 C0.out.2 YM.out) ?_
      rintro _ yz ⟨rfl, hy⟩
      obtain rfl := hy.symm
      refine hK.out _ _ hS (fun _ => ?_)
      simp only [Act.put, List.setIfInBounds_toArray, List.set_cons_zero, List.set_cons_succ]
      clear hK K
      refine take_lawH 6 (some 50) (.tuple #[.slice none 0 0, .int .i64 2]) rfl rfl (by kernel_rfl) (by kernel_rfl) (by kernel_rfl) (fun _ _ _ h => h) (Or.inl ⟨by rfl, fun w' hw' => by rfl⟩) hS ?_
      simp only [Act.put, List.setIfInBounds_toArray, List.set_cons_zero, List.set_cons_succ]
      refine take_lawH 7 (some 57) (.slice none 0 0) rfl rfl (by kernel_rfl) (by kernel_rfl) (by kernel_rfl) (fun _ _ _ h => h) (Or.inl ⟨by rfl, fun w' hw' => by rfl⟩) hS ?_
      simp only [Act.put, List.setIfInBounds_toArray, List.set_cons_zero, List.set_cons_succ]
      refine take_lawH 8 (some 58) (.int .i64 2) rfl rfl (by kernel_rfl) (by kernel_rfl) (by kernel_rfl) (fun _ _ _ h => h) (Or.inl ⟨by rfl, fun w' hw' => by rfl⟩) hS ?_
      simp only [Act.put, List.setIfInBounds_toArray, List.set_cons_zero, List.set_cons_succ]
      refine wpAnyH_ready (rs := [9]) (by kernel_rfl) (by simp) ?_
      refine AllReadyH.cons rfl (fun K hK => ?_) AllReadyH.nil
      refine step_movG _ rfl (some 14) rfl (.tmp 57) rfl (.slice none 0 0) rfl ?_
      refine hK.out _ _ hS (fun _ => ?_)
      simp only [Act.put, List.setIfInBounds_toArray, List.set_cons_zero, List.set_cons_succ]
      clear hK K
      refine wpAnyH_ready (rs := [10]) (by kernel_rfl) (by simp) ?_
      refine AllReadyH.cons rfl (fun K hK => ?_) AllReadyH.nil
      refine step_movG _ rfl (some 15) rfl (.tmp 58) rfl (.int .i64 2) rfl ?_
      refine hK.out _ _ hS (fun _ => ?_)
      simp only [Act.put, List.setIfInBounds_toArray, List.set_cons_zero, List.set_cons_succ]
      clear hK K
      refine wpAnyH_done (by kernel_rfl) ?_ _
      go_wp2_with fail
      go_meet
      exact ⟨rfl, rfl, hS⟩
    · refine step_make _ rfl (some 55) rfl _ _ rfl _ (Nat.le_refl _) 16 16 rfl rfl rfl (by omega) fun x6 hx6 bx6 sx6 => ?_
      have hS : Below x4.heap.size x4 x6 := hS.trans (bx6.mono hS.size)
      have YM : Hid (Byt x6 (.slice (some ⟨x5.heap.size, 0, none⟩) 16 16) (List.replicate 16 0)) := OwnN.zero hx6 rfl
      refine hK.out _ _ hS (fun _ => ?_)
      simp only [Act.put, List.setIfInBounds_toArray, List.set_cons_zero, List.set_cons_succ]
      clear hK K
      generalize x5.heap.size = gm at *
      refine wpAnyH_ready (rs := [1]) (by kernel_rfl) (by simp) ?_
      refine AllReadyH.cons rfl (fun K hK => ?_) AllReadyH.nil
      refine step_box _ rfl (some 52) rfl (.tmp 51) 43 rfl #[.pointer none, .pointer none] rfl fun x7 cx7 bx7 => ?_
      have hS : Below x4.heap.size x4 x7 := hS.trans (bx7.mono hS.size)
      have C0 : Hid (x7.cell? ⟨x6.heap.size, 0, none⟩ = some (.pointer none) ∧ x7.cell? ⟨x6.heap.size, 1, none⟩ = some (.pointer none)) := ⟨cx7 0 _ rfl, cx7 1 _ rfl⟩
      have YM : Hid (Byt x7 (.slice (some ⟨gm, 0, none⟩) 16 16) (List.replicate 16 0)) := YM.out.below bx7
      refine hK.out _ _ hS (fun _ => ?_)
      simp only [Act.put, List.setIfInBounds_toArray, List.set_cons_zero, List.set_cons_succ]
      clear hK K
      generalize x6.heap.size = gg at *
      refine wpAnyH_ready (rs := [5]) (by kernel_rfl) (by simp) ?_
      refine AllReadyH.cons rfl (fun K hK => ?_) AllReadyH.nil
      refine step_callW _ (by rfl) (some 56) rfl 10 #[.tmp 52, .tmp 54, .tmp 55] #[26, 22, 22] rfl (fun q w' => by rfl) #[.pointer (some ⟨gg, 0, none⟩), .slice o3 16 p3, .slice (some ⟨gm, 0, none⟩) 16 16] (by simp only [List.map_toArray, List.map_cons, List.map_nil]; rfl) _ (RE.out _ _ _ _ C0.out.1 C0.out.2 YM.out) ?_
      rintro _ yz ⟨rfl, hy⟩
      obtain rfl := hy.symm
      refine hK.out _ _ hS (fun _ => ?_)
      simp only [Act.put, List.setIfInBounds_toArray, List.set_cons_zero, List.set_cons_succ]
      clear hK K
      refine take_lawH 6 (some 50) (.tuple #[.slice none 0 0, .int .i64 2]) rfl rfl (by kernel_rfl) (by kernel_rfl) (by kernel_rfl) (fun _ _ _ h => h) (Or.inl ⟨by rfl, fun w' hw' => by rfl⟩) hS ?_
      simp only [Act.put, List.setIfInBounds_toArray, List.set_cons_zero, List.set_cons_succ]
      refine take_lawH 7 (some 57) (.slice none 0 0) rfl rfl (by kernel_rfl) (by kernel_rfl) (by kernel_rfl) (fun _ _ _ h => h) (Or.inl ⟨by rfl, fun w' hw' => by rfl⟩) hS ?_
      simp only [Act.put, List.setIfInBounds_toArray, List.set_cons_zero, List.set_cons_succ]
      refine take_lawH 8 (some 58) (.int .i64 2) rfl rfl (by kernel_rfl) (by kernel_rfl) (by kernel_rfl) (fun _ _ _ h => h) (Or.inl ⟨by rfl, fun w' hw' => by rfl⟩) hS ?_
      simp only [Act.put, List.setIfInBounds_toArray, List.set_cons_zero, List.set_cons_succ]
      refine wpAnyH_ready (rs := [9]) (by kernel_rfl) (by simp) ?_
      refine AllReadyH.cons rfl (fun K hK => ?_) AllReadyH.nil
      refine step_movG _ rfl (some 14) rfl (.tmp 57) rfl (.slice none 0 0) rfl ?_
      refine hK.out _ _ hS (fun _ => ?_)
      simp only [Act.put, List.setIfInBounds_toArray, List.set_cons_zero, List.set_cons_succ]
      clear hK K
      refine wpAnyH_ready (rs := [10]) (by kernel_rfl) (by simp) ?_
      refine AllReadyH.cons rfl (fun K hK => ?_) AllReadyH.nil
      refine step_movG _ rfl (some 15) rfl (.tmp 58) rfl (.int .i64 2) rfl ?_
      refine hK.out _ _ hS (fun _ => ?_)
      simp only [Act.put, List.setIfInBounds_toArray, List.set_cons_zero, List.set_cons_succ]
      clear hK K
      refine wpAnyH_done (by kernel_rfl) ?_ _
      go_wp2_with fail
      go_meet
      exact ⟨rfl, rfl, hS⟩
  case rest =>
    obtain ⟨rfl, rfl, hS⟩ := hcut
    have BB : Hid (Below w.heap.size w wc) := BB.out.trans (hS.mono BB.out.size)
    have XX : Hid (Bx wc kb (.slice o1 32 p1) (.slice o2 32 p2) (.slice o3 16 p3)) := XX.out.below hS
    obtain ⟨f0, f1, f2⟩ := XX.out
    have MM : Hid (Msks wc g3 N M) := MM.out.below hS
    clear hS R2 RE NE ND
    have R1 : Hid (∀ w', Below wc.heap.size wc w' → (Instr.loadAt 22 (.pointer (some ⟨kb, 1, none⟩))).run Try.prog w' = .ok (.slice o2 32 p2) w') := fun w' h => (XX.out.below h).load1
    have R2 : Hid (∀ w', Below wc.heap.size wc w' → (Instr.loadAt 22 (.pointer (some ⟨kb, 2, none⟩))).run Try.prog w' = .ok (.slice o3 16 p3) w') := fun w' h => (XX.out.below h).load2
    go_wp2
    refine wp_region_held_drew (S := fun w' => Below wc.heap.size wc w') (by kernel_rfl) (Below.refl _ _).drew (fun hS => ?_)
    refine take_lawH 0 (some 126) (.pointer (some ⟨kb, 1, none⟩)) rfl rfl (by kernel_rfl) (by kernel_rfl) (by kernel_rfl) (fun _ _ _ h => h) (Or.inl ⟨by rfl, fun w' hw' => by go_simp⟩) hS ?_
    simp only [Act.put, List.setIfInBounds_toArray, List.set_cons_zero, List.set_cons_succ]
    refine take_lawH 1 (some 127) (.slice o2 32 p2) rfl rfl (by kernel_rfl) (by kernel_rfl) (by kernel_rfl) (fun _ _ _ h => h) (Or.inl ⟨by rfl, fun w' hw' => by exact exec_load 22 (.tmp 126) rfl _ rfl _ _ (R1.out w' hw')⟩) hS ?_
    simp only [Act.put, List.setIfInBounds_toArray, List.set_cons_zero, List.set_cons_succ]
    refine take_lawH 2 (some 128) (.pointer (some ⟨kb, 2, none⟩)) rfl rfl (by kernel_rfl) (by kernel_rfl) (by kernel_rfl) (fun _ _ _ h => h) (Or.inl ⟨by rfl, fun w' hw' => by go_simp⟩) hS ?_
    simp only [Act.put, List.setIfInBounds_toArray, List.set_cons_zero, List.set_cons_succ]
    refine take_lawH 3 (some 129) (.slice o3 16 p3) rfl rfl (by kernel_rfl) (by kernel_rfl) (by kernel_rfl) (fun _ _ _ h => h) (Or.inl ⟨by rfl, fun w' hw' => by exact exec_load 22 (.tmp 128) rfl _ rfl _ _ (R2.out w' hw')⟩) hS ?_
    simp only [Act.put, List.setIfInBounds_toArray, List.set_cons_zero, List.set_cons_succ]
    refine wpAnyH_ready (rs := [4]) (by kernel_rfl) (by simp) ?_
    refine AllReadyH.cons rfl (fun K hK => ?_) AllReadyH.nil
    refine step_callW _ (by rfl) (some 130) rfl 14 #[] #[] rfl (fun q w' => by rfl) #[] (by simp only [List.map_toArray, List.map_nil]) _ (S4.out _) ?_
    rintro tv z4 ⟨y4, B4⟩
    have hS : Below wc.heap.size wc z4 := hS.trans (B4.mono hS.size)
    have T4 : Hid (Byt z4 tv tab) := y4
    clear y4 B4
    refine hK.out _ _ hS (fun _ => ?_)
    simp only [Act.put, List.setIfInBounds_toArray, List.set_cons_zero, List.set_cons_succ]
    clear hK K
    refine wpAnyH_ready (rs := [5]) (by kernel_rfl) (by simp) ?_
    refine AllReadyH.cons rfl (fun K hK => ?_) AllReadyH.nil
    refine step_callW _ (by rfl) (some 131) rfl 18 #[.tmp 127, .tmp 129, .tmp 130] #[22, 22, 22] rfl (fun q w' => by rfl) #[.slice o2 32 p2, .slice o3 16 p3, tv] (by simp only [List.map_toArray, List.map_cons, List.map_nil]; rfl) _ (S5.out _ _ (BB.out.trans (hS.mono BB.out.size)) T4.out) ?_
    rintro mv z5 ⟨y5, B5⟩
    have hS : Below wc.heap.size wc z5 := hS.trans (B5.mono hS.size)
    have Y5 : Hid (Byt z5 mv (ms 0)) := y5
    clear y5 B5
    refine hK.out _ _ hS (fun _ => ?_)
    simp only [Act.put, List.setIfInBounds_toArray, List.set_cons_zero, List.set_cons_succ]
    clear hK K
    refine wpAnyH_ready (rs := [6]) (by kernel_rfl) (by simp) ?_
    refine AllReadyH.cons rfl (fun K hK => ?_) AllReadyH.nil
    refine step_movG _ rfl (some 16) rfl (.tmp 131) rfl (mv) rfl ?_
    refine hK.out _ _ hS (fun _ => ?_)
    simp only [Act.put, List.setIfInBounds_toArray, List.set_cons_zero, List.set_cons_succ]
    clear hK K
    refine wpAnyH_done (by kernel_rfl) ?_ _
    have BB : Hid (Below w.heap.size w z5) := BB.out.trans (hS.mono BB.out.size)
    have MM : Hid (Msks z5 g3 N M) := MM.out.below hS
    clear hS R1 R2 T4 XX f0 f1 f2 S4 S5
    go_wp2
    go_loopw [17, 16] (fun i u wr => ∃ k : Nat, k ≤ N ∧ i = .int .i64 (k : Int) ∧ Byt wr u (ms k) ∧ Below z5.heap.size z5 wr) (fun i _ _ => N - (intOf i).toNat)
    case atStart => exact ⟨0, Nat.zero_le _, rfl, Y5.out, Below.refl _ _⟩
    case round =>
      obtain ⟨k, hk, rfl, hY, hB⟩ := hrel
      obtain ⟨wa, rfl⟩ : ∃ wx, wx = wr := ⟨_, rfl⟩
      have k0 : (0 : Int) ≤ (k : Int) := by omega
      have q1 : IntKind.i64.wrap (k : Int) = k := by have := n1; rw [IntKind.wrap_i64]; omega
      have HB : Hid (Below z5.heap.size z5 wa) := hB
      have HY : Hid (Byt wa u16 (ms k)) := hY
      clear hB hY
      by_cases hlt : k < N
      · have k1 : (k : Int) < (N : Int) := by omega
        obtain ⟨gi, c1, y1⟩ := MA.out _ _ (MM.out.below HB.out) k hlt
        have YM : Hid (Byt wa (.slice (some ⟨gi, 0, none⟩) 16 16) (ms k)) := y1
        clear y1
        go_wp2_with (first
          | (have q8 := s8; go_at_call 19; refine (S6.out k _ _ Y8.out).mono ?_; rintro e y9 ⟨v9, rfl, yy, B9⟩; have HB9 : Hid (Below z5.heap.size z5 y9) := HB8.out.trans (B9.mono HB8.out.size); have Y9 : Hid (Byt y9 v9 (ms (k + 1))) := yy; clear B9 yy)
          | (go_at_call 12; refine (S7.out k _ _ _ YM.out HY.out).mono ?_; rintro e y8 ⟨rfl, B8⟩; have s8 := B8.size; have HB8 : Hid (Below z5.heap.size z5 y8) := HB.out.trans (B8.mono HB.out.size); have Y8 : Hid (Byt y8 u16 (ms k)) := HY.out.below B8; clear B8))
        go_roundw
        case rel => exact ⟨k + 1, by omega, by go_num, Y9.out, HB9.out⟩
        case measure => simp [intOf]; omega
      · have k1 : ¬ ((k : Int) < (N : Int)) := by omega
        go_wp2_with (go_at_call 8; refine (AW.out _).mono ?_; rintro e w9 ⟨rfl, B9⟩)
        go_ret
        exact ⟨rfl, BB.out.trans ((HB.out.trans (B9.mono HB.out.size)).mono BB.out.size)⟩

theorem walk (va : Value) (dk : List Int) (vb : Value) (tk : List Int) (vc : Value) (ab : List Int) (n : Int) (w : World) (h0 : Byt w va dk) (h1 : Byt w vb tk) (h2 : Byt w vc ab) (hn : -9223372036854775808 ≤ n ∧ n ≤ 9223372036854775807) :
    Calls Try.prog 7 #[.agg #[va, vb, vc], .int .i64 n] w fun e w' => e = .returned (.bool true) ∧ Below w.heap.size w w' := by
  by_cases hk : dk.length = 32 ∧ tk.length = 32
  · by_cases h : ab.length = 16 ∧ 0 ≤ n ∧ n ≤ 256
    · obtain ⟨N, rfl⟩ : ∃ N : Nat, n = N := ⟨n.toNat, by omega⟩
      exact walk_yes va dk vb tk vc ab N w h0 h1 h2 hk h.1 (by omega)
    · exact walk_at va dk vb tk vc ab n w h0 h1 h2 hk h
  · exact walk_key va dk vb tk vc ab n w h0 h1 h2 hk

theorem params : ∀ t ∈ Try.f7.params.toList, Try.prog.readableRec t = true ∧ t < Try.prog.types.size := by
  rw [Try.params7]
  intro t ht
  simp at ht
  rcases ht with rfl | rfl
  · exact ⟨by kernel_rfl, of_decide_eq_true (by kernel_rfl)⟩
  · exact ⟨by kernel_rfl, of_decide_eq_true (by kernel_rfl)⟩

theorem contract (H : Type) (enc : TypeId × Value → H) (W : World) (base : Nat) (args : Array Value) (ds gs : List (DataW H)) (before : List MemPlace)
    (hval : ∀ (j : Nat) t v, Try.f7.params[j]? = some t → args[j]? = some v → Value.okWide Try.prog W .any base t v)
    (hW : DataW.Whole enc Try.prog Try.f7.params.toList Rows.xtsMasksSpec.vars false W args.toList ds gs before) :
    Calls Try.prog 7 args W fun e W' => ∃ v, e = .returned v ∧ Rows.xtsMasksSpec.post enc Try.prog Try.f7 false true false false W args v W' := by
  have hW' := hW
  obtain ⟨p, q, hA0, hV, rfl, hfz, hnd⟩ := hW
  have hA : DataW.TrodAll enc Try.prog W 0 (fun _ => true) true Try.f7.params.toList args.toList ds p := hA0
  rw [Try.params7] at hA hval
  obtain ⟨v0, v1, d0, d1, p0, p1, rfl, rfl, rfl, h0, h1⟩ := trodAll_two hA
  obtain ⟨rfl, rfl⟩ := trodVars_none hV
  obtain ⟨va0, vb0, vc0, xs0, ys0, zs0, rfl, b0, c0, e0⟩ := keys_open (hval 0 24 v0 rfl rfl) h0
  obtain ⟨x1, rfl, rfl, rfl, w1⟩ := open_int Try.underlying3 (hval 1 3 v1 rfl rfl) h1
  clear hA0
  refine (walk va0 xs0 vb0 ys0 vc0 zs0 x1 W b0 c0 e0 (bounds_i64 w1)).mono fun e W' ⟨he, hg⟩ => ?_
  subst he
  exact ⟨_, rfl, post_law rfl (by kernel_rfl) params rfl rfl rfl hW' hg⟩

theorem laid_met (os : Os) : laidMet Try.prog Rows.xtsMasksRow.laid ((World.holding Try.prog os ⟨#[], #[], []⟩).forCall (fun _ _ => 0) ⟨#[], #[.agg #[.slice none 0 0, .slice none 0 0, .slice none 0 0], .int .i64 0], []⟩).memory :=
  laidMet_of_run' 8 (by kernel_rfl) (by kernel_rfl)
theorem reads (os : Os) {H : Type} (enc : TypeId × Value → H) : ∃ places, DataW.whole enc Try.prog ((World.holding Try.prog os ⟨#[], #[], []⟩).forCall (fun _ _ => 0) ⟨#[], #[.agg #[.slice none 0 0, .slice none 0 0, .slice none 0 0], .int .i64 0], []⟩).memory Try.f7.params.toList Rows.xtsMasksSpec.vars false #[Value.agg #[.slice none 0 0, .slice none 0 0, .slice none 0 0], Value.int .i64 0].toList 8 = some ([.agg [.nil, .nil, .nil], .lit (.int .i64 0)], [], places) :=
  ⟨[], by kernel_rfl⟩

set_option maxRecDepth 100000 in
theorem lifted (os : Os) (started : os.Started) (H : Type) (enc : TypeId × Value → H) (F : Stop.Interp) :
    ReturnsInHanded {} Try.checked os 7 .any ((OpenSpec.ofChange Rows.xtsMasksSpec).preRow enc Try.prog Try.f7 Rows.xtsMasksRow.domain false Rows.xtsMasksRow.laid) (((OpenSpec.ofChange Rows.xtsMasksSpec).at F).post enc Try.prog Try.f7 false true false false) := by
  obtain ⟨places, hx⟩ := reads os enc
  refine returnsInHanded_of_row (C := Try.checked) (s := OpenSpec.ofChange Rows.xtsMasksSpec) own started (by kernel_rfl) Try.func7
    (witness_row_at (enc := enc) (C := Try.checked) false (World.holding Try.prog os ⟨#[], #[], []⟩) #[.agg #[.slice none 0 0, .slice none 0 0, .slice none 0 0], .int .i64 0] rfl (by kernel_rfl) (by kernel_rfl) (by kernel_rfl)
      (OpenSpec.preRow_of_cond 8 hx (by kernel_rfl) (fun k hk => by cases hk) (by kernel_rfl) (laid_met os))) ?_
  intro W base args ds gs before hval hW _ _ _ _ _ _
  exact contract H enc W base args ds gs before hval hW

theorem said : Rows.XtsMasksSaid :=
  OpenClaim.holds_of_cond 7 Try.f7 rfl rfl rfl rfl rfl rfl rfl ⟨rfl, rfl, rfl, rfl, rfl⟩ rfl rfl rfl rfl rfl (by kernel_rfl) Try.func7 (by kernel_rfl)
    (of_decide_eq_true (by kernel_rfl)) (by unfold Func.isWrapper; first | (rw [if_pos (by decide +kernel)]; kernel_rfl) | (rw [if_neg (by decide +kernel)]; exact ⟨rfl, rfl⟩))
    (fun os started H enc _ F => by rw [OpenClaim.pre_eq_preRow]; exact lifted os started H enc F)
end Go.Proofs.Ytijadglmbopboaa.xtsMasks

namespace Go.Proofs.Ytijadglmbopboaa
theorem xtsMasks_said : Rows.XtsMasksSaid := xtsMasks.said
#print axioms xtsMasks_said
end Go.Proofs.Ytijadglmbopboaa
