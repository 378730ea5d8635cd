/- That wrap answers at all; 'make' in a region that draws its order. No claim of its own. -/
import Derived.Test.YtjiddmgnkldmkaaWUn
namespace Go.Proofs.Ytjiddmgnkldmkaa.wr
open Go.RowKit

/-- 'make([]byte, n)' in a region that draws its order -/
theorem step_make {ops : Array Oper} {o : Oper} {a : Act} {Q : Exit → Act → World → Prop} {K : Act → World → Prop} {E : Prop} (w : World) (hg : o.guard = none) (d : Option Tmp) (hd : o.dst = d) (l c : Operand) (hop : o.op = Op.makeSlice 22 l c) (B : Nat) (hB : B ≤ w.heap.size)
    (L : Int) (n : Nat) (hl : a.eval l = .int .i64 L) (hc : a.eval c = .int .i64 L) (hL : L = (n : Int)) (hn : n ≤ 1099511627776)
    (hK : ∀ w', OwnN B w' w.heap.size n (List.replicate n 0) → Below B w w' → w.heap.size < w'.heap.size → K (a.put d (.slice (some ⟨w.heap.size, 0, none⟩) n n)) w') :
    if Region.wanted o (yielded ops a.tmps) = true then Oper.wp Try.prog o a w K Q else E := by
  have hw : Region.wanted o (yielded ops a.tmps) = true := by simp [Region.wanted, hg]
  rw [if_pos hw]
  subst hd
  obtain ⟨i0, hi, hz0, hz1, hz2⟩ := info_parts info_u8
  obtain ⟨w', hrun, h1, h2⟩ := run_make_full (P := Try.prog) w B 22 5 i0 (.int .u8 0) 1 Try.underlying22 hi hz0 hz1 .i64 .i64 n (by rw [hz2]; omega) (by simp only [maxLen]; omega) hB
  subst hL
  have hlt : w.heap.size < w'.heap.size := (h1.lt w.heap.size rfl).2
  unfold Oper.wp
  simp [execOp, hop, hl, hc, hrun, Result.andThen]
  refine hK w' ⟨by simp, hB, ?_⟩ ((Below.refl B w).grown h2 hB (fun k hk => by cases hk)) hlt
  have e : (madeCells (Value.int .u8 0).cells (n * 1)).toList = (List.replicate n (0 : Int)).map (Value.int .u8) := by
    rw [Nat.mul_one]
    show (madeCells #[Value.int .u8 0] n).toList = _
    rw [toList_madeCells_one]; simp
  rw [e] at h1
  exact h1
/-- noughts -/
def nul (n : Nat) : List Int := List.replicate n 0
theorem nul_len (n : Nat) : (nul n).length = n := List.length_replicate
theorem nul_all (n : Nat) : AllB (nul n) := allB_replicate 0 n (by omega)
theorem nul_byt {B : Nat} {w : World} {g n : Nat} (h : OwnN B w g n (List.replicate n 0)) : Byt w (.slice (some ⟨g, 0, none⟩) n n) (nul n) := h.byt (nul_all n)

set_option maxRecDepth 20000 in
set_option maxHeartbeats 4000000 in
theorem awake_any (w : World) : Calls Try.prog 7 #[] w fun e w' => e = .returned (.bool true) ∧ Below w.heap.size w w' := by
  have fit := wrapped_fit (nul 32) (nul_len 32) (nul_all 32) (nul 16) 2 (by omega) (nul_len 16) (nul_all 16)
  have HE : Hid (∀ kv bv w0, Byt w0 kv (nul 32) → Byt w0 bv (nul 16) → Calls Try.prog 8 #[kv, bv] w0 fun e w' => ∃ v, e = .returned v ∧ ∃ ao cap, v = .tuple #[.slice ao 24 cap, .int .i64 0] ∧ Byt w' (.slice ao 24 cap) (wrapped (nul 32) (nul 16) 2) ∧ Below w0.heap.size w0 w') := fun kv bv w0 h1 h2 => by
    refine (wrap_any kv bv (nul 32) (nul 16) 2 w0 h1 (nul_len 32) h2 (nul_len 16) (by omega) (by omega)).mono ?_
    rintro e w' ⟨v, rfl, hy, hb⟩
    have hy' := hy
    obtain ⟨ao, cap, rfl, -⟩ := hy'
    rw [fit.1] at hy ⊢
    exact ⟨_, rfl, ao, cap, rfl, hy, hb⟩
  have HU : Hid (∀ kv bv w0, Byt w0 kv (nul 32) → Byt w0 bv (wrapped (nul 32) (nul 16) 2) → Calls Try.prog 13 #[kv, bv] w0 fun e w' => ∃ ao cap, e = .returned (.tuple #[.slice ao 16 cap, .int .i64 0]) ∧ Below w0.heap.size w0 w') := fun kv bv w0 h1 h2 => by
    refine (unwrap_any kv bv (nul 32) _ 2 w0 h1 (nul_len 32) h2 fit.1 (by omega) (by omega)).mono ?_
    have hu := unwr_wrapped (nul 32) (nul_len 32) (nul_all 32) (nul 16) 2 (by omega) (nul_len 16) (nul_all 16)
    rw [hu]
    have tt := take_two a6 (nul 16) a6_len
    rintro e w' ⟨⟨-, v, rfl, hy⟩ | ⟨hn, -⟩, hb⟩
    · rw [tt.2] at hy
      obtain ⟨ao, cap, rfl, -⟩ := hy
      rw [nul_len]
      exact ⟨ao, cap, rfl, hb⟩
    · exact absurd tt.1 hn
  clear fit
  generalize wrapped (nul 32) (nul 16) 2 = W at *
  go_enter Try.func7, Try.ntmps7
  go_wp2
  refine wp_region_any (by kernel_rfl) ?_
  change wpAny _ _ _ _ _ _ _ (World.drew _)
  obtain ⟨wd, hwd⟩ : ∃ x, x = World.drew w := ⟨_, rfl⟩
  have BD : Hid (Below w.heap.size w wd) := by rw [hwd]; exact (Below.refl _ _).drew
  rw [← hwd]
  clear hwd
  refine wpAny_ready (rs := [0, 1]) (by kernel_rfl) (by simp) ?_
  refine AllReady.cons rfl (fun K hK => ?_) (AllReady.cons rfl (fun K hK => ?_) AllReady.nil)
  · refine step_make _ rfl (some 6) rfl _ _ rfl wd.heap.size (Nat.le_refl _) 32 32 rfl rfl rfl (by omega) fun w3 h3 B3 sw3 => hK _ _ ?_
    simp only [Act.put, List.setIfInBounds_toArray, List.set_cons_zero, List.set_cons_succ]
    clear hK K
    have Y1 : Hid (Byt w3 (.slice (some ⟨wd.heap.size, 0, none⟩) 32 32) (nul 32)) := nul_byt h3
    have BB : Hid (Below w.heap.size w w3) := BD.out.trans (B3.mono BD.out.size)
    clear h3 B3 BD sw3
    obtain ⟨g1, hg1⟩ : ∃ g, g = wd.heap.size := ⟨_, rfl⟩
    rw [← hg1] at Y1 ⊢
    clear hg1
    refine wpAny_ready (rs := [1]) (by kernel_rfl) (by simp) ?_
    refine AllReady.cons rfl (fun K hK => ?_) AllReady.nil
    refine step_make _ rfl (some 7) rfl _ _ rfl w3.heap.size (Nat.le_refl _) 16 16 rfl rfl rfl (by omega) fun w4 h4 B4 sw4 => hK _ _ ?_
    simp only [Act.put, List.setIfInBounds_toArray, List.set_cons_zero, List.set_cons_succ]
    clear hK K
    have Y2 : Hid (Byt w4 (.slice (some ⟨w3.heap.size, 0, none⟩) 16 16) (nul 16)) := nul_byt h4
    have Y1 : Hid (Byt w4 (.slice (some ⟨g1, 0, none⟩) 32 32) (nul 32)) := Y1.out.below B4
    have BB : Hid (Below w.heap.size w w4) := BB.out.trans (B4.mono BB.out.size)
    clear h4 B4 sw4
    refine wpAny_ready (rs := [2]) (by kernel_rfl) (by simp) ?_
    refine AllReady.cons rfl (fun K hK => ?_) AllReady.nil
    refine step_callW _ (by rfl) (some 8) rfl 8 #[.tmp 6, .tmp 7] #[22, 22] rfl (fun q w' => by rfl) #[.slice (some ⟨g1, 0, none⟩) 32 32, .slice (some ⟨w3.heap.size, 0, none⟩) 16 16] (by simp only [List.map_toArray, List.map_cons, List.map_nil]; rfl) _ (HE.out _ _ _ Y1.out Y2.out) ?_
    rintro _ w5 ⟨ao, cap, rfl, y5, B5⟩
    refine hK _ _ ?_
    simp only [Act.put, List.setIfInBounds_toArray, List.set_cons_zero, List.set_cons_succ]
    clear hK K
    have Y5 : Hid (Byt w5 (.slice ao 24 cap) W) := y5
    have BB : Hid (Below w.heap.size w w5) := BB.out.trans (B5.mono BB.out.size)
    clear y5 B5
    refine take_lawG 3 (some 5) (.tuple #[.slice ao 24 cap, .int .i64 0]) rfl rfl (by kernel_rfl) (by kernel_rfl) (by kernel_rfl) (fun _ _ _ h => h) (Or.inl ⟨by rfl, fun w' => by rfl⟩) ?_
    simp only [Act.put, List.setIfInBounds_toArray, List.set_cons_zero, List.set_cons_succ]
    refine take_lawG 4 (some 9) (.slice ao 24 cap) rfl rfl (by kernel_rfl) (by kernel_rfl) (by kernel_rfl) (fun _ _ _ h => h) (Or.inl ⟨by rfl, fun w' => by rfl⟩) ?_
    simp only [Act.put, List.setIfInBounds_toArray, List.set_cons_zero, List.set_cons_succ]
    refine take_lawG 5 (some 10) (.int .i64 0) rfl rfl (by kernel_rfl) (by kernel_rfl) (by kernel_rfl) (fun _ _ _ h => h) (Or.inl ⟨by rfl, fun w' => by rfl⟩) ?_
    simp only [Act.put, List.setIfInBounds_toArray, List.set_cons_zero, List.set_cons_succ]
    refine wpAny_ready (rs := [6]) (by kernel_rfl) (by simp) ?_
    refine AllReady.cons rfl (fun K hK => ?_) AllReady.nil
    refine step_movG _ rfl (some 1) rfl (.tmp 9) rfl (.slice ao 24 cap) rfl (hK _ _ ?_)
    simp only [Act.put, List.setIfInBounds_toArray, List.set_cons_zero, List.set_cons_succ]
    clear hK K
    refine wpAny_ready (rs := [7]) (by kernel_rfl) (by simp) ?_
    refine AllReady.cons rfl (fun K hK => ?_) AllReady.nil
    refine step_movG _ rfl (some 2) rfl (.tmp 10) rfl (.int .i64 0) rfl (hK _ _ ?_)
    simp only [Act.put, List.setIfInBounds_toArray, List.set_cons_zero, List.set_cons_succ]
    clear hK K
    refine wpAny_done (by kernel_rfl) ?_ _
    go_wp2_with (first
      | (go_at_call 13; refine (HU.out _ _ _ Y6.out Y56.out).mono ?_; rintro e w7 ⟨ao7, cap7, rfl, B7⟩; have BB7 : Hid (Below w.heap.size w w7) := BB6.out.trans (B7.mono BB6.out.size); clear B7)
      | (at_make; refine make_law _ rfl _ _ rfl w5.heap.size (Nat.le_refl _) 32 32 rfl rfl rfl (by omega) ?_; intro w6 h6 B6 s6; have Y6 : Hid (Byt w6 (.slice (some ⟨w5.heap.size, 0, none⟩) 32 32) (nul 32)) := nul_byt h6; have Y56 : Hid (Byt w6 (.slice ao 24 cap) W) := Y5.out.below B6; have BB6 : Hid (Below w.heap.size w w6) := BB.out.trans (B6.mono BB.out.size); clear h6 B6 s6))
    go_ret
    exact ⟨rfl, BB7.out⟩
  · refine step_make _ rfl (some 7) rfl _ _ rfl wd.heap.size (Nat.le_refl _) 16 16 rfl rfl rfl (by omega) fun w3 h3 B3 sw3 => hK _ _ ?_
    simp only [Act.put, List.setIfInBounds_toArray, List.set_cons_zero, List.set_cons_succ]
    clear hK K
    have Y1 : Hid (Byt w3 (.slice (some ⟨wd.heap.size, 0, none⟩) 16 16) (nul 16)) := nul_byt h3
    have BB : Hid (Below w.heap.size w w3) := BD.out.trans (B3.mono BD.out.size)
    clear h3 B3 BD sw3
    obtain ⟨g1, hg1⟩ : ∃ g, g = wd.heap.size := ⟨_, rfl⟩
    rw [← hg1] at Y1 ⊢
    clear hg1
    refine wpAny_ready (rs := [0]) (by kernel_rfl) (by simp) ?_
    refine AllReady.cons rfl (fun K hK => ?_) AllReady.nil
    refine step_make _ rfl (some 6) rfl _ _ rfl w3.heap.size (Nat.le_refl _) 32 32 rfl rfl rfl (by omega) fun w4 h4 B4 sw4 => hK _ _ ?_
    simp only [Act.put, List.setIfInBounds_toArray, List.set_cons_zero, List.set_cons_succ]
    clear hK K
    have Y2 : Hid (Byt w4 (.slice (some ⟨w3.heap.size, 0, none⟩) 32 32) (nul 32)) := nul_byt h4
    have Y1 : Hid (Byt w4 (.slice (some ⟨g1, 0, none⟩) 16 16) (nul 16)) := Y1.out.below B4
    have BB : Hid (Below w.heap.size w w4) := BB.out.trans (B4.mono BB.out.size)
    clear h4 B4 sw4
    refine wpAny_ready (rs := [2]) (by kernel_rfl) (by simp) ?_
    refine AllReady.cons rfl (fun K hK => ?_) AllReady.nil
    refine step_callW _ (by rfl) (some 8) rfl 8 #[.tmp 6, .tmp 7] #[22, 22] rfl (fun q w' => by rfl) #[.slice (some ⟨w3.heap.size, 0, none⟩) 32 32, .slice (some ⟨g1, 0, none⟩) 16 16] (by simp only [List.map_toArray, List.map_cons, List.map_nil]; rfl) _ (HE.out _ _ _ Y2.out Y1.out) ?_
    rintro _ w5 ⟨ao, cap, rfl, y5, B5⟩
    refine hK _ _ ?_
    simp only [Act.put, List.setIfInBounds_toArray, List.set_cons_zero, List.set_cons_succ]
    clear hK K
    have Y5 : Hid (Byt w5 (.slice ao 24 cap) W) := y5
    have BB : Hid (Below w.heap.size w w5) := BB.out.trans (B5.mono BB.out.size)
    clear y5 B5
    refine take_lawG 3 (some 5) (.tuple #[.slice ao 24 cap, .int .i64 0]) rfl rfl (by kernel_rfl) (by kernel_rfl) (by kernel_rfl) (fun _ _ _ h => h) (Or.inl ⟨by rfl, fun w' => by rfl⟩) ?_
    simp only [Act.put, List.setIfInBounds_toArray, List.set_cons_zero, List.set_cons_succ]
    refine take_lawG 4 (some 9) (.slice ao 24 cap) rfl rfl (by kernel_rfl) (by kernel_rfl) (by kernel_rfl) (fun _ _ _ h => h) (Or.inl ⟨by rfl, fun w' => by rfl⟩) ?_
    simp only [Act.put, List.setIfInBounds_toArray, List.set_cons_zero, List.set_cons_succ]
    refine take_lawG 5 (some 10) (.int .i64 0) rfl rfl (by kernel_rfl) (by kernel_rfl) (by kernel_rfl) (fun _ _ _ h => h) (Or.inl ⟨by rfl, fun w' => by rfl⟩) ?_
    simp only [Act.put, List.setIfInBounds_toArray, List.set_cons_zero, List.set_cons_succ]
    refine wpAny_ready (rs := [6]) (by kernel_rfl) (by simp) ?_
    refine AllReady.cons rfl (fun K hK => ?_) AllReady.nil
    refine step_movG _ rfl (some 1) rfl (.tmp 9) rfl (.slice ao 24 cap) rfl (hK _ _ ?_)
    simp only [Act.put, List.setIfInBounds_toArray, List.set_cons_zero, List.set_cons_succ]
    clear hK K
    refine wpAny_ready (rs := [7]) (by kernel_rfl) (by simp) ?_
    refine AllReady.cons rfl (fun K hK => ?_) AllReady.nil
    refine step_movG _ rfl (some 2) rfl (.tmp 10) rfl (.int .i64 0) rfl (hK _ _ ?_)
    simp only [Act.put, List.setIfInBounds_toArray, List.set_cons_zero, List.set_cons_succ]
    clear hK K
    refine wpAny_done (by kernel_rfl) ?_ _
    go_wp2_with (first
      | (go_at_call 13; refine (HU.out _ _ _ Y6.out Y56.out).mono ?_; rintro e w7 ⟨ao7, cap7, rfl, B7⟩; have BB7 : Hid (Below w.heap.size w w7) := BB6.out.trans (B7.mono BB6.out.size); clear B7)
      | (at_make; refine make_law _ rfl _ _ rfl w5.heap.size (Nat.le_refl _) 32 32 rfl rfl rfl (by omega) ?_; intro w6 h6 B6 s6; have Y6 : Hid (Byt w6 (.slice (some ⟨w5.heap.size, 0, none⟩) 32 32) (nul 32)) := nul_byt h6; have Y56 : Hid (Byt w6 (.slice ao 24 cap) W) := Y5.out.below B6; have BB6 : Hid (Below w.heap.size w w6) := BB.out.trans (B6.mono BB.out.size); clear h6 B6 s6))
    go_ret
    exact ⟨rfl, BB7.out⟩
end Go.Proofs.Ytjiddmgnkldmkaa.wr
