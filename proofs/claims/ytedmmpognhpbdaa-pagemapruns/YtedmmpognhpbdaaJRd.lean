/- What the reference's Drop answers, and the end of its Drop and Put. No claim of its own. -/
import Derived.Test.YtedmmpognhpbdaaJRm
namespace Go.Proofs.Ytedmmpognhpbdaa.pm
open Go.RowKit Go.Proofs.Ytedmmpognhpbdaa.he
set_option maxRecDepth 20000

theorem Pls.ch {P : Nat → Prop} {w w' : World} {v : Value} {l : List PL} (h : Pls w v l) (hb : Ch P w w') (hp : ∀ k, Blk v k → ¬ P k) : Pls w' v l := by
  obtain ⟨ao, cap, rfl, h2, h3, h4⟩ := h
  refine ⟨ao, cap, rfl, h2, h3, fun hl => ?_⟩
  obtain ⟨g, rfl, hr⟩ := h4 hl
  exact ⟨g, rfl, hr.heap (hb.block g (hr.lt hl) (hp g rfl))⟩
theorem load_cl {w : World} {b q : Nat} {v : Value} (h : w.cell? ⟨b, q, none⟩ = some v) : (Instr.loadAt 26 (pq b q)).run Try.prog w = .ok v w := by
  have : (loadVar 26 ⟨b, q, none⟩).run Try.prog w = .ok v w := by
    simp [loadVar, isAgg, run_underlying Try.underlying26, h]
  simp only [Instr.loadAt, Instr.sureAddr, Sem.run_bind, Sem.run_pure, Result.andThen_ok, this]
theorem size_ce (w : World) : (sizeOf 51).run Try.prog w = .ok 16 w := Try.sizeOf51 w
theorem run_idxC (w : World) (d q n c i : Nat) (hi : i < n) : (Instr.indexAt 26 (.slice (some ⟨d, q, none⟩) n c) (.int .i64 (i : Int))).run Try.prog w = .ok (pq d (q + i * 16)) w := by
  rw [run_indexAt_slice _ _ _ _ _ _ _ Try.underlying26, if_pos (by omega), show Try.prog.elem 26 = 51 by kernel_rfl, size_ce]
  simp only [Result.andThen_ok, Int.toNat_natCast]
  rw [Addr.add_lit]
theorem exec_idxC {ev : Operand → Value} {o : Oper} (x y : Operand) (hop : o.op = Op.indexAddr 26 x y) (d n c i : Nat) (hx : ev x = .slice (some ⟨d, 0, none⟩) n c) (hy : ev y = .int .i64 (i : Int)) (hi : i < n) (w : World) : (execOp ev o).run Try.prog w = .ok (.value (pq d (i * 16))) w := by
  unfold execOp
  simp only [hop, hx, hy, Sem.run_bind, Result.andThen_ok, run_idxC w d 0 n c i hi]
  simp

section
variable {ops : Array Oper} {o : Oper} {a : Act} {Q : Exit → Act → World → Prop} {K : Act → World → Prop} {E : Prop}
theorem step_loadC (w : World) (hg : o.guard = none) (d : Option Tmp) (hd : o.dst = d) (x : Operand) (hop : o.op = Op.load 26 x) (b q : Nat) (v : Value) (hx : a.eval x = pq b q) (hc : w.cell? ⟨b, q, none⟩ = some v) (hK : K (a.put d v) w) : if Region.wanted o (yielded ops a.tmps) = true then Oper.wp Try.prog o a w K Q else E := by
  have hw : Region.wanted o (yielded ops a.tmps) = true := by simp [Region.wanted, hg]
  rw [if_pos hw]
  subst hd
  unfold Oper.wp execOp
  simp only [hop, hx, Sem.run_bind, Sem.run_pure, Result.andThen_ok, load_cl hc]
  exact hK
theorem step_oneG (w : World) (hg : o.guard = none) (d : Option Tmp) (hd : o.dst = d) (x : Operand) (p : Ce) (hop : o.op = Op.buildSlice 26 1 #[(0, x)]) (hx : a.eval x = .agg p.cs.toArray)
    (hK : ∀ w', Vr w' w.heap.size p.cs → Below w.heap.size w w' → K (a.put d (.slice (some ⟨w.heap.size, 0, none⟩) 1 1)) w') : if Region.wanted o (yielded ops a.tmps) = true then Oper.wp Try.prog o a w K Q else E := by
  have hw : Region.wanted o (yielded ops a.tmps) = true := by simp [Region.wanted, hg]
  rw [if_pos hw]
  subst hd
  have hrun : (Instr.buildSlice 26 1 #[(0, .agg p.cs.toArray)]).run Try.prog w = .ok (.slice (some ⟨w.heap.size, 0, none⟩) 1 1) (w.alloc (.cells p.cs.toArray 51)) := by kernel_rfl
  unfold Oper.wp execOp
  simp only [hop, List.map_toArray, List.map_cons, List.map_nil, hx, Sem.run_bind, Sem.run_pure, Result.andThen_ok, hrun]
  exact hK _ (Vr.new w 51 p.cs) ((Below.refl _ _).alloc (Nat.le_refl _) _)
theorem step_pushG (w : World) (hg : o.guard = none) (d : Option Tmp) (hd : o.dst = d) (s x : Operand) (hop : o.op = .call { callee := .builtin .append, args := #[s, x], argTypes := #[26, 26] })
    (B : Nat) (hB : B ≤ w.heap.size) (v : Value) (l : List Ce) (g : Nat) (p : Ce) (hs : a.eval s = v) (hx : a.eval x = .slice (some ⟨g, 0, none⟩) 1 1) (hown : Og B w v l) (hV : Vr w g p.cs) (hn : l.length ≤ 100000)
    (hK : ∀ v' w', Og B w' v' (l ++ [p]) → w.grownBy w' v.ownBlock → K (a.put d v') w') : if Region.wanted o (yielded ops a.tmps) = true then Oper.wp Try.prog o a w K Q else E := by
  have hw : Region.wanted o (yielded ops a.tmps) = true := by simp [Region.wanted, hg]
  rw [if_pos hw]
  subst hd
  obtain ⟨i0, hi, hz0, hz1, hz2⟩ := info_parts info_cell
  refine wp_append_own _ s x 26 hop B 51 i0 _ 16 128 Try.underlying26 hi hz0 hz1 hz2 rfl (by decide) v l.length (fc l) hs hown ⟨g, 0, none⟩ 1 1 p.cs hx rfl (fun j u hj => ?_) p.one (by simp only [maxLen]; omega) (by omega) hB fun v' w' O1 G1 _ => ?_
  · rw [Addr.add_lit]
    have := hV.cell j u hj
    simpa using this
  · refine hK v' w' ?_ G1
    show w'.ownsRow B 51 16 v' (l ++ [p]).length (fc (l ++ [p]))
    rw [fc_snoc, List.length_append]
    exact O1
theorem step_storeG (w : World) (hg : o.guard = none) (d : Option Tmp) (hd : o.dst = d) (x y : Operand) (t : TypeId) (hop : o.op = Op.store t x y) (c : Nat) (cs0 cs : List Value) (hx : a.eval x = pq c 0) (hy : a.eval y = .agg cs.toArray) (hV : Vr w c cs0) (hl : cs0.length = cs.length) (hs : (Try.prog.info? t).map (·.size) = some cs.length) (h1 : ∀ v ∈ cs, v.oneCell' = true)
    (hK : ∀ w', Vr w' c cs → w.grownBy w' (some c) → K (a.put d undef) w') : if Region.wanted o (yielded ops a.tmps) = true then Oper.wp Try.prog o a w K Q else E := by
  have hw : Region.wanted o (yielded ops a.tmps) = true := by simp [Region.wanted, hg]
  rw [if_pos hw]
  subst hd
  have ht : w.there c 0 cs.length := by rw [← hl]; exact hV.2
  refine wp_store_mid t x y hop c 0 cs.toArray hx hy (by simpa using ht) (by simpa using hs) (all_oneCell_toArray h1) ?_
  exact hK _ ⟨World.rangeAt_setCells_same w c 0 cs ht, World.there_setCells ht c 0 _⟩ (wrt_cells w c 0 cs.length cs rfl).1
end
/-- where a Drop or a Put stands ahead of its end -/
structure Fs (w wr : World) (B b0 b4 b6 : Nat) (c0 c4 : List Value) (s : Nat → Nat) (v : Value) (l : List Ce) : Prop where
  a : Vr wr b0 c0
  r : Vr wr b4 c4
  o : Vr wr b6 (rmc s v)
  g : Og B wr v l
  h : Below w.heap.size w wr
  lt : b0 < B ∧ b4 < B ∧ b6 < B ∧ b0 ≠ b4 ∧ b6 ≠ b4 ∧ w.heap.size ≤ b4 ∧ B ≤ wr.heap.size
  p0 : 0 < c0.length
  p4 : 0 < c4.length
section
variable {w wr w' : World} {B b0 b4 b6 : Nat} {c0 c4 c4' : List Value} {s : Nat → Nat} {v : Value} {l : List Ce}
theorem Fs.below (h : Fs w wr B b0 b4 b6 c0 c4 s v l) (hb : Below wr.heap.size wr w') : Fs w w' B b0 b4 b6 c0 c4 s v l :=
  ⟨h.a.below hb (range_lt h.a.1 h.p0), h.r.below hb (range_lt h.r.1 h.p4), h.o.below hb (range_lt h.o.1 (Nat.succ_pos _)), h.g.below hb, h.h.trans (hb.mono h.h.size), ⟨h.lt.1, h.lt.2.1, h.lt.2.2.1, h.lt.2.2.2.1, h.lt.2.2.2.2.1, h.lt.2.2.2.2.2.1, Nat.le_trans h.lt.2.2.2.2.2.2 hb.size⟩, h.p0, h.p4⟩
theorem Fs.put (h : Fs w wr B b0 b4 b6 c0 c4 s v l) (hg : wr.grownBy w' (some b4)) (hV : Vr w' b4 c4') (hp : 0 < c4'.length) : Fs w w' B b0 b4 b6 c0 c4' s v l := by
  have hl := h.lt
  refine ⟨h.a.heap (hg.block _ (range_lt h.a.1 h.p0) (fun e => hl.2.2.2.1 (Option.some.inj e))), hV, h.o.heap (hg.block _ (range_lt h.o.1 (Nat.succ_pos _)) (fun e => hl.2.2.2.2.1 (Option.some.inj e))), h.g.ch (P := fun k => k = b4) (Ch.of_grown (P := fun k => k = b4) hg rfl) (fun k hk e => by have := h.g.cl.2 k hk; omega), h.h.grown hg h.h.size fun k hk => by cases hk; exact hl.2.2.2.2.2.1, ⟨hl.1, hl.2.1, hl.2.2.1, hl.2.2.2.1, hl.2.2.2.2.1, hl.2.2.2.2.2.1, Nat.le_trans hl.2.2.2.2.2.2 hg.size⟩, h.p0, hp⟩
end
theorem Ms.fs {w wr : World} {B bo b0 b4 : Nat} {vs : List (Nat × List Value)} {s : Nat → Nat} {v : Value} {l : List Ce} {c0 c4 : List Value} (h : Ms w wr B vs bo s v v l) (h0 : (b0, c0) ∈ vs) (h4 : (b4, c4) ∈ vs) (hn : b0 ≠ b4) (hw : w.heap.size ≤ b4) : Fs w wr B b0 b4 bo c0 c4 s v l :=
  ⟨(h.vs _ h0).1, (h.vs _ h4).1, h.o, h.g, h.h, ⟨(h.vs _ h0).2.1, (h.vs _ h4).2.1, h.lo.2, hn, fun e => (h.vs _ h4).2.2.1 e.symm, hw, h.lb⟩, (h.vs _ h0).2.2.2, (h.vs _ h4).2.2.2⟩
theorem ms_more {w w5 w7 : World} {B bo : Nat} {vs : List (Nat × List Value)} {s : Nat → Nat} {v : Value} (hB : B = w7.heap.size) (hv : ∀ x ∈ vs, Vr w5 x.1 x.2 ∧ 0 < x.2.length) (hbo : bo = w5.heap.size) (V5 : Vr w7 bo (rmc s v)) (hv0 : v = .slice none 0 0) (B7 : Below w5.heap.size w5 w7) (BB : Below w.heap.size w w5) : Ms w w7 B vs bo s v v [] := by
  subst hv0
  have l5 := range_lt V5.1 (Nat.succ_pos _)
  have hs := B7.size
  have hb := BB.size
  refine ⟨fun x hx => ?_, V5, Og.nil B w7, BB.trans (B7.mono BB.size), ⟨by omega, by omega⟩, by omega⟩
  obtain ⟨h1, h2⟩ := hv x hx
  have l1 := range_lt h1.1 h2
  exact ⟨h1.below B7 l1, by omega, by omega, h2⟩
/-- the cells of other namespaces -/
def nin (i : Nat) (c : Ce) : Bool := !decide (c.n = (i : Int))
set_option maxHeartbeats 16000000 in
theorem rdrop_any (s : Nat → Nat) (v : Value) (L : List Ce) (i : Nat) (hi : i < 4) (w : World) (hL : Cl w v L) (hn : L.length ≤ 100000) : Calls Try.prog 27 #[.agg (rmc s v).toArray, .int .i64 (i : Int)] w fun e w' => ∃ v' vg, e = .returned (.tuple #[.agg (rmc (up s i 0) v').toArray, vg]) ∧ Cl w' v' (L.filter (nin i)) ∧ (∀ k, Blk v' k → w.heap.size ≤ k ∧ k < w'.heap.size) ∧ Pls w' vg (gn (L.filter (nin i)) L) ∧ (∀ k, Blk vg k → w.heap.size ≤ k ∧ k < w'.heap.size) ∧ Below w.heap.size w w' := by
  have GN : Hid (∀ W, Below w.heap.size w W → ∀ {v2}, Cl W v2 (L.filter (nin i)) → Calls Try.prog 50 #[.agg (rmc s v).toArray, .agg (rmc (up s i 0) v2).toArray] W fun e w' => ∃ v9, e = .returned v9 ∧ Pls w' v9 (gn (L.filter (nin i)) L) ∧ (∀ k, Blk v9 k → W.heap.size ≤ k ∧ k < w'.heap.size) ∧ Below W.heap.size W w') := fun W hW v2 h2 => rgone_any s (up s i 0) v v2 L _ W (hL.below hW) h2 hn (Nat.le_trans (List.length_filter_le _ _) hn)
  obtain ⟨ao, cap, rfl, hr⟩ := hL
  obtain ⟨n, hN⟩ : ∃ n, n = L.length := ⟨_, rfl⟩
  have HR : Hid (0 < n → ∃ g, ao = some ⟨g, 0, none⟩ ∧ Rc w g L) := by rw [hN]; exact hr
  have NN : Hid (n = L.length) := hN
  rw [← hN] at GN ⊢
  have n9 : (n : Int) ≤ 100000 := by omega
  have i4 : (i : Int) < 4 := by omega
  have i0 : (0 : Int) ≤ (i : Int) := by omega
  have I4 : Hid (i < 4) := hi
  clear hr hn hN hi
  have t0 : (0 : Nat) = 0 := rfl
  go_enter Try.func27, Try.ntmps27
  go_wp2_with (first
    | (have qq := t6; (with_reducible refine at_store ?_); refine set_law1 _ rfl (.tmp 13) (.const (.int .i64 0)) 3 rfl (rmc s (.slice none 0 0)) w2.heap.size i (.int .i64 0) rfl rfl VZ.out (by have := I4.out; show i < 5; omega) rfl rfl sz_int ?_; intro w5 X9 G9; have V5 : Hid (Vr w5 w2.heap.size (rmc (up s i 0) (.slice none 0 0))) := (by have e9 := rmc_sz s (.slice none 0 0) i I4.out 0; rw [← e9]; exact X9); have B7 : Hid (Below w2.heap.size w2 w5) := B6.out.grown G9 B6.out.size (fun k hk => by cases hk; exact Nat.le_refl _); clear X9 G9 VZ B6 t6)
    | (have qq := t5; (with_reducible refine at_store ?_); refine store_lawC _ (rmc s (.slice none 0 0)) w2.heap.size 0 rfl rfl VZ.out.2 size_rmap (rmc_one (Og.nil 0 w)) ?_; intro w4 _ r9 h9 B9; have VZ : Hid (Vr w4 w2.heap.size (rmc s (.slice none 0 0))) := ⟨r9, h9⟩; have B6 : Hid (Below w2.heap.size w2 w4) := B6.out.trans B9; clear r9 h9 B9 t5; have t6 : (0 : Nat) = 0 := rfl)
    | (have qq := t4; (with_reducible refine at_alloc ?_); refine new_lawC _ _ zero_rmap ?_; intro w3 X9 B9 l9; have VZ : Hid (Vr w3 w2.heap.size (rmc (fun _ => 0) (.slice none 0 0))) := X9; have B6 : Hid (Below w2.heap.size w2 w3) := B9; clear X9 B9 l9 t4; have t5 : (0 : Nat) = 0 := rfl)
    | (have qq := t3; refine build_law _ rfl 28 _ rfl (.agg (rmc s (.slice none 0 0)).toArray) (by kernel_rfl) ?_; clear t3; have t4 : (0 : Nat) = 0 := rfl)
    | (have qq := t2; refine load_law _ (by rfl) 25 (.tmp 8) rfl w.heap.size 0 (sz4 s) rfl rowy_arr4 (load_sz V0.out) ?_; clear t2; have t3 : (0 : Nat) = 0 := rfl)
    | (have qq := t1; (with_reducible refine at_alloc ?_); refine new_lawC _ _ zero_rmap ?_; intro w2 X9 B9 l9; have V4 : Hid (Vr w2 w1.heap.size (rmc (fun _ => 0) (.slice none 0 0))) := X9; have V0 : Hid (Vr w2 w.heap.size (rmc s (.slice ao n cap))) := V0.out.below B9 (range_lt V0.out.1 (Nat.succ_pos _)); have LO : Hid (w.heap.size < w1.heap.size) := range_lt V0X.out.1 (Nat.succ_pos _); have BB : Hid (Below w.heap.size w w2) := BB.out.trans (B9.mono BB.out.size); clear X9 B9 l9 V0X t1; have t2 : (0 : Nat) = 0 := rfl)
    | (have qq := t0; refine box_lawC _ (rmc s (.slice ao n cap)) rfl ?_; intro w1 X9 B9 l9; have V0 : Hid (Vr w1 w.heap.size (rmc s (.slice ao n cap))) := X9; have V0X : Hid (Vr w1 w.heap.size (rmc s (.slice ao n cap))) := X9; have BB : Hid (Below w.heap.size w w1) := B9; clear X9 B9 l9 t0; have t1 : (0 : Nat) = 0 := rfl))
  obtain ⟨B, hB⟩ : ∃ B, B = w5.heap.size := ⟨_, rfl⟩
  have HM : Hid (Ms w w5 B [(w.heap.size, rmc s (.slice ao n cap)), (w1.heap.size, rmc (fun _ => 0) (.slice none 0 0))] w2.heap.size (up s i 0) (.slice none 0 0) (.slice none 0 0) ((L.take 0).filter (nin i))) := ms_more hB (fun x hx => by
    simp only [List.mem_cons, List.not_mem_nil, or_false] at hx
    rcases hx with rfl | rfl
    · exact ⟨V0.out, Nat.succ_pos _⟩
    · exact ⟨V4.out, Nat.succ_pos _⟩) rfl V5.out rfl B7.out BB.out
  clear V0 V4 V5 B7 BB hB
  go_loopw [7] (fun iv wr => ∃ (k : Nat) (v : Value), k ≤ n ∧ iv = .int .i64 k ∧ Hid (Ms w wr B [(w.heap.size, rmc s (.slice ao n cap)), (w1.heap.size, rmc (fun _ => 0) (.slice none 0 0))] w2.heap.size (up s i 0) v v ((L.take k).filter (nin i)))) (fun iv _ => n - (intOf iv).toNat)
  case atStart => exact ⟨0, _, Nat.zero_le _, rfl, HM⟩
  case round =>
    clear HM
    obtain ⟨k, v, hk, rfl, HM⟩ := hrel
    have k0 : (0 : Int) ≤ (k : Int) := by omega
    have kw : IntKind.i64.wrap ((k : Int) + 1) = ((k + 1 : Nat) : Int) := by rw [IntKind.wrap_i64]; omega
    have nv : wr.cell? ⟨w.heap.size, 4, none⟩ = some (.slice ao n cap) := (HM.out.var (List.mem_of_getElem? (i := 0) rfl)).cell 4 _ rfl
    by_cases hlt : k < n
    · have k1 : (k : Int) < (n : Int) := by omega
      have HLT : Hid (k < n) := hlt
      clear GN
      obtain ⟨x, hx⟩ : ∃ x, L[k]? = some x := ⟨_, List.getElem?_eq_getElem (by have := NN.out; omega)⟩
      obtain ⟨g, rfl, hr⟩ := HR.out (by omega)
      have nx := cells16 ((hr.below HM.out.h) k x hx).1
      have RX : Hid (∀ W, Below w.heap.size w W → W.rangeAt g (k * 16) x.cs) := fun W hW => ((hr.below hW) k x hx).1
      have HX : Hid (L[k]? = some x) := hx
      have KN : Hid (((L.take k).filter (nin i)).length ≤ 100000) := by
        have z := List.length_filter_le (nin i) (L.take k)
        rw [List.length_take] at z
        show _ ≤ _
        omega
      clear hr hx hlt hk
      by_cases hp : x.n = (i : Int)
      · have d1 : (x.n != (i : Int)) = false := by simp [hp]
        have d2 : decide (x.n ≠ (i : Int)) = false := decide_eq_false (fun h => h hp)
        have LL : Hid ((L.take (k + 1)).filter (nin i) = (L.take k).filter (nin i)) := by show _ = _; rw [take_more HX.out, List.filter_append]; simp [nin, hp]
        clear hp
        go_wp2
        go_roundw
        case rel => exact ⟨k + 1, v, by have := HLT.out; omega, by go_num, by rw [LL.out]; exact HM⟩
        case measure => simp [intOf]; have := HLT.out; omega
      · have d1 : (x.n != (i : Int)) = true := by simp [hp]
        have d2 : decide (x.n ≠ (i : Int)) = true := decide_eq_true hp
        have LL : Hid ((L.take (k + 1)).filter (nin i) = (L.take k).filter (nin i) ++ [x]) := by show _ = _; rw [take_more HX.out, List.filter_append]; simp [nin, hp]
        clear hp
        go_wp2
        have HM : Hid (Ms w wr.drew B [(w.heap.size, rmc s (.slice (some ⟨g, 0, none⟩) n cap)), (w1.heap.size, rmc (fun _ => 0) (.slice none 0 0))] w2.heap.size (up s i 0) v v ((L.take k).filter (nin i))) := HM.out.below (below_dr (Below.refl _ _) 1)
        refine wp_region_held_drew (S := fun w' => w'.cell? ⟨w.heap.size, 4, none⟩ = some (.slice (some ⟨g, 0, none⟩) n cap) ∧ w'.rangeAt g (k * 16) x.cs) (by kernel_rfl) ⟨(HM.out.var (List.mem_of_getElem? (i := 0) rfl)).cell 4 _ rfl, (RX.out _ HM.out.h)⟩ (fun hS => ?_)
        obtain ⟨z1, hx0⟩ : ∃ x, x = wr.drew := ⟨_, rfl⟩
        rw [← hx0] at hS HM ⊢
        clear hx0
        refine take_lawH 0 (some 29) (.pointer (some ⟨w2.heap.size, 4, none⟩)) rfl rfl (by kernel_rfl) (by kernel_rfl) (by kernel_rfl) (fun _ _ _ h => h) (Or.inl ⟨by rfl, fun w' hw' => by go_simp⟩) hS ?_
        simp only [Act.put, List.setIfInBounds_toArray, List.set_cons_zero, List.set_cons_succ]
        refine take_lawH 2 (some 31) (.pointer (some ⟨w.heap.size, 4, none⟩)) rfl rfl (by kernel_rfl) (by kernel_rfl) (by kernel_rfl) (fun _ _ _ h => h) (Or.inl ⟨by rfl, fun w' hw' => by go_simp⟩) hS ?_
        simp only [Act.put, List.setIfInBounds_toArray, List.set_cons_zero, List.set_cons_succ]
        refine take_lawH 3 (some 32) (.slice (some ⟨g, 0, none⟩) n cap) rfl rfl (by kernel_rfl) (by kernel_rfl) (by kernel_rfl) (fun _ _ _ h => h) (Or.inl ⟨by rfl, fun w' hw' => by exact exec_loadN 26 (.tmp 31) rfl _ rfl _ _ (load_cl hw'.1)⟩) hS ?_
        simp only [Act.put, List.setIfInBounds_toArray, List.set_cons_zero, List.set_cons_succ]
        refine take_lawH 4 (some 33) (.int .i64 (k : Int)) rfl rfl (by kernel_rfl) (by kernel_rfl) (by kernel_rfl) (fun _ _ _ h => h) (Or.inl ⟨by rfl, fun w' hw' => by rfl⟩) hS ?_
        simp only [Act.put, List.setIfInBounds_toArray, List.set_cons_zero, List.set_cons_succ]
        refine take_lawH 5 (some 34) (.pointer (some ⟨g, k * 16, none⟩)) rfl rfl (by kernel_rfl) (by kernel_rfl) (by kernel_rfl) (fun _ _ _ h => h) (Or.inl ⟨by rfl, fun w' hw' => by exact exec_idxC (.tmp 32) (.tmp 33) rfl g n cap k rfl rfl HLT.out _⟩) hS ?_
        simp only [Act.put, List.setIfInBounds_toArray, List.set_cons_zero, List.set_cons_succ]
        refine take_lawH 6 (some 35) (.agg x.cs.toArray) rfl rfl (by kernel_rfl) (by kernel_rfl) (by kernel_rfl) (fun _ _ _ h => h) (Or.inl ⟨by rfl, fun w' hw' => by exact exec_loadN 51 (.tmp 34) rfl _ rfl _ _ (load_cells rowy_cell hw'.2)⟩) hS ?_
        simp only [Act.put, List.setIfInBounds_toArray, List.set_cons_zero, List.set_cons_succ]
        refine wpAnyH_ready (rs := [1, 7]) (by kernel_rfl) (by simp) ?_
        refine AllReadyH.cons rfl (fun K hK => ?_) (AllReadyH.cons rfl (fun K hK => ?_) AllReadyH.nil)
        · refine step_loadC z1 rfl (some 30) rfl (.tmp 29) rfl w2.heap.size 4 v rfl (HM.out.o.cell 4 _ rfl) ?_
          refine hK.out _ _ hS (fun _ => ?_)
          simp only [Act.put, List.setIfInBounds_toArray, List.set_cons_zero, List.set_cons_succ]
          clear hK K
          refine wpAnyH_ready (rs := [7]) (by kernel_rfl) (by simp) ?_
          refine AllReadyH.cons rfl (fun K hK => ?_) AllReadyH.nil
          refine step_oneG z1 rfl (some 36) rfl (.tmp 35) x rfl rfl ?_
          intro z2 X9 B9
          have VL : Hid (Vr z2 z1.heap.size x.cs) := X9
          have HM : Hid (Ms w z2 B [(w.heap.size, rmc s (.slice (some ⟨g, 0, none⟩) n cap)), (w1.heap.size, rmc (fun _ => 0) (.slice none 0 0))] w2.heap.size (up s i 0) v v ((L.take k).filter (nin i))) := HM.out.below B9
          have hS : z2.cell? ⟨w.heap.size, 4, none⟩ = some (.slice (some ⟨g, 0, none⟩) n cap) ∧ z2.rangeAt g (k * 16) x.cs := ⟨(HM.out.var (List.mem_of_getElem? (i := 0) rfl)).cell 4 _ rfl, RX.out _ HM.out.h⟩
          clear X9 B9
          refine hK.out _ _ hS (fun _ => ?_)
          simp only [Act.put, List.setIfInBounds_toArray, List.set_cons_zero, List.set_cons_succ]
          clear hK K
          refine wpAnyH_ready (rs := [8]) (by kernel_rfl) (by simp) ?_
          refine AllReadyH.cons rfl (fun K hK => ?_) AllReadyH.nil
          refine step_pushG z2 rfl (some 37) rfl (.tmp 30) (.tmp 36) rfl B HM.out.lb v ((L.take k).filter (nin i)) z1.heap.size x rfl rfl HM.out.g VL.out KN.out ?_
          intro v9 z3 O9 G9
          have O8 : Hid (Og B z3 v9 ((L.take (k + 1)).filter (nin i))) := by rw [← LL.out] at O9; exact O9
          have HM : Hid (Ms w z3 B [(w.heap.size, rmc s (.slice (some ⟨g, 0, none⟩) n cap)), (w1.heap.size, rmc (fun _ => 0) (.slice none 0 0))] w2.heap.size (up s i 0) v v9 ((L.take (k + 1)).filter (nin i))) := HM.out.push G9 O8.out
          have hS : z3.cell? ⟨w.heap.size, 4, none⟩ = some (.slice (some ⟨g, 0, none⟩) n cap) ∧ z3.rangeAt g (k * 16) x.cs := ⟨(HM.out.var (List.mem_of_getElem? (i := 0) rfl)).cell 4 _ rfl, RX.out _ HM.out.h⟩
          clear O9 G9 O8 VL
          refine hK.out _ _ hS (fun _ => ?_)
          simp only [Act.put, List.setIfInBounds_toArray, List.set_cons_zero, List.set_cons_succ]
          clear hK K
          refine take_lawH 9 (some 38) (.pointer (some ⟨w2.heap.size, 4, none⟩)) rfl rfl (by kernel_rfl) (by kernel_rfl) (by kernel_rfl) (fun _ _ _ h => h) (Or.inl ⟨by rfl, fun w' hw' => by go_simp⟩) hS ?_
          simp only [Act.put, List.setIfInBounds_toArray, List.set_cons_zero, List.set_cons_succ]
          refine wpAnyH_ready (rs := [10]) (by kernel_rfl) (by simp) ?_
          refine AllReadyH.cons rfl (fun K hK => ?_) AllReadyH.nil
          refine step_set1 z3 rfl none rfl (.tmp 38) (.tmp 37) 26 rfl (rmc (up s i 0) v) w2.heap.size 4 v9 rfl rfl HM.out.o (by show 4 < 5; omega) HM.out.g.one.1 HM.out.g.one.2 sz_cells ?_
          intro z4 X9 G9
          have HM : Hid (Ms w z4 B [(w.heap.size, rmc s (.slice (some ⟨g, 0, none⟩) n cap)), (w1.heap.size, rmc (fun _ => 0) (.slice none 0 0))] w2.heap.size (up s i 0) v9 v9 ((L.take (k + 1)).filter (nin i))) := HM.out.put G9 X9
          have hS : z4.cell? ⟨w.heap.size, 4, none⟩ = some (.slice (some ⟨g, 0, none⟩) n cap) ∧ z4.rangeAt g (k * 16) x.cs := ⟨(HM.out.var (List.mem_of_getElem? (i := 0) rfl)).cell 4 _ rfl, RX.out _ HM.out.h⟩
          clear X9 G9
          refine hK.out _ _ hS (fun _ => ?_)
          simp only [Act.put]
          clear hK K
          refine wpAnyH_done (by kernel_rfl) ?_ _
          go_wp2
          go_roundw
          case rel => exact ⟨k + 1, v9, by have := HLT.out; omega, by go_num, HM⟩
          case measure => simp [intOf]; have := HLT.out; omega
        · refine step_oneG z1 rfl (some 36) rfl (.tmp 35) x rfl rfl ?_
          intro z5 X9 B9
          have VL : Hid (Vr z5 z1.heap.size x.cs) := X9
          have HM : Hid (Ms w z5 B [(w.heap.size, rmc s (.slice (some ⟨g, 0, none⟩) n cap)), (w1.heap.size, rmc (fun _ => 0) (.slice none 0 0))] w2.heap.size (up s i 0) v v ((L.take k).filter (nin i))) := HM.out.below B9
          have hS : z5.cell? ⟨w.heap.size, 4, none⟩ = some (.slice (some ⟨g, 0, none⟩) n cap) ∧ z5.rangeAt g (k * 16) x.cs := ⟨(HM.out.var (List.mem_of_getElem? (i := 0) rfl)).cell 4 _ rfl, RX.out _ HM.out.h⟩
          clear X9 B9
          refine hK.out _ _ hS (fun _ => ?_)
          simp only [Act.put, List.setIfInBounds_toArray, List.set_cons_zero, List.set_cons_succ]
          clear hK K
          refine wpAnyH_ready (rs := [1]) (by kernel_rfl) (by simp) ?_
          refine AllReadyH.cons rfl (fun K hK => ?_) AllReadyH.nil
          refine step_loadC z5 rfl (some 30) rfl (.tmp 29) rfl w2.heap.size 4 v rfl (HM.out.o.cell 4 _ rfl) ?_
          refine hK.out _ _ hS (fun _ => ?_)
          simp only [Act.put, List.setIfInBounds_toArray, List.set_cons_zero, List.set_cons_succ]
          clear hK K
          refine wpAnyH_ready (rs := [8]) (by kernel_rfl) (by simp) ?_
          refine AllReadyH.cons rfl (fun K hK => ?_) AllReadyH.nil
          refine step_pushG z5 rfl (some 37) rfl (.tmp 30) (.tmp 36) rfl B HM.out.lb v ((L.take k).filter (nin i)) z1.heap.size x rfl rfl HM.out.g VL.out KN.out ?_
          intro v9 z6 O9 G9
          have O8 : Hid (Og B z6 v9 ((L.take (k + 1)).filter (nin i))) := by rw [← LL.out] at O9; exact O9
          have HM : Hid (Ms w z6 B [(w.heap.size, rmc s (.slice (some ⟨g, 0, none⟩) n cap)), (w1.heap.size, rmc (fun _ => 0) (.slice none 0 0))] w2.heap.size (up s i 0) v v9 ((L.take (k + 1)).filter (nin i))) := HM.out.push G9 O8.out
          have hS : z6.cell? ⟨w.heap.size, 4, none⟩ = some (.slice (some ⟨g, 0, none⟩) n cap) ∧ z6.rangeAt g (k * 16) x.cs := ⟨(HM.out.var (List.mem_of_getElem? (i := 0) rfl)).cell 4 _ rfl, RX.out _ HM.out.h⟩
          clear O9 G9 O8 VL
          refine hK.out _ _ hS (fun _ => ?_)
          simp only [Act.put, List.setIfInBounds_toArray, List.set_cons_zero, List.set_cons_succ]
          clear hK K
          refine take_lawH 9 (some 38) (.pointer (some ⟨w2.heap.size, 4, none⟩)) rfl rfl (by kernel_rfl) (by kernel_rfl) (by kernel_rfl) (fun _ _ _ h => h) (Or.inl ⟨by rfl, fun w' hw' => by go_simp⟩) hS ?_
          simp only [Act.put, List.setIfInBounds_toArray, List.set_cons_zero, List.set_cons_succ]
          refine wpAnyH_ready (rs := [10]) (by kernel_rfl) (by simp) ?_
          refine AllReadyH.cons rfl (fun K hK => ?_) AllReadyH.nil
          refine step_set1 z6 rfl none rfl (.tmp 38) (.tmp 37) 26 rfl (rmc (up s i 0) v) w2.heap.size 4 v9 rfl rfl HM.out.o (by show 4 < 5; omega) HM.out.g.one.1 HM.out.g.one.2 sz_cells ?_
          intro z7 X9 G9
          have HM : Hid (Ms w z7 B [(w.heap.size, rmc s (.slice (some ⟨g, 0, none⟩) n cap)), (w1.heap.size, rmc (fun _ => 0) (.slice none 0 0))] w2.heap.size (up s i 0) v9 v9 ((L.take (k + 1)).filter (nin i))) := HM.out.put G9 X9
          have hS : z7.cell? ⟨w.heap.size, 4, none⟩ = some (.slice (some ⟨g, 0, none⟩) n cap) ∧ z7.rangeAt g (k * 16) x.cs := ⟨(HM.out.var (List.mem_of_getElem? (i := 0) rfl)).cell 4 _ rfl, RX.out _ HM.out.h⟩
          clear X9 G9
          refine hK.out _ _ hS (fun _ => ?_)
          simp only [Act.put]
          clear hK K
          refine wpAnyH_done (by kernel_rfl) ?_ _
          go_wp2
          go_roundw
          case rel => exact ⟨k + 1, v9, by have := HLT.out; omega, by go_num, HM⟩
          case measure => simp [intOf]; have := HLT.out; omega
    · have k1 : ¬ (k : Int) < (n : Int) := by omega
      have HF : Hid (Fs w wr B w.heap.size w1.heap.size w2.heap.size (rmc s (.slice ao n cap)) (rmc (fun _ => 0) (.slice none 0 0)) (up s i 0) v (L.filter (nin i))) := by
        have z := HM.out.fs (List.mem_of_getElem? (i := 0) rfl) (List.mem_of_getElem? (i := 1) rfl) (by have := LO.out; omega) (by have := LO.out; omega)
        rwa [List.take_of_length_le (by have := NN.out; omega)] at z
      clear HM
      go_wp2
      clear nv
      have HF : Hid (Fs w wr.drew B w.heap.size w1.heap.size w2.heap.size (rmc s (.slice ao n cap)) (rmc (fun _ => 0) (.slice none 0 0)) (up s i 0) v (L.filter (nin i))) := HF.out.below (below_dr (Below.refl _ _) 1)
      refine wp_region_held_drew (S := fun w' => w'.rangeAt w2.heap.size 0 (rmc (up s i 0) v) ∧ w'.rangeAt w.heap.size 0 (rmc s (.slice ao n cap))) (by kernel_rfl) ⟨HF.out.o.1, HF.out.a.1⟩ (fun hS => ?_)
      obtain ⟨y1, hx0⟩ : ∃ x, x = wr.drew := ⟨_, rfl⟩
      rw [← hx0] at hS HF ⊢
      clear hx0
      refine take_lawH 0 (some 39) (.agg (rmc (up s i 0) v).toArray) rfl rfl (by kernel_rfl) (by kernel_rfl) (by kernel_rfl) (fun _ _ _ h => h) (Or.inl ⟨by rfl, fun w' hw' => by exact exec_loadN 28 (.tmp 6) rfl _ rfl _ _ (load_cells rowy_rmap hw'.1)⟩) hS ?_
      simp only [Act.put, List.setIfInBounds_toArray, List.set_cons_zero, List.set_cons_succ]
      refine take_lawH 1 (some 40) (.agg (rmc s (.slice ao n cap)).toArray) rfl rfl (by kernel_rfl) (by kernel_rfl) (by kernel_rfl) (fun _ _ _ h => h) (Or.inl ⟨by rfl, fun w' hw' => by exact exec_loadN 28 (.tmp 2) rfl _ rfl _ _ (load_cells rowy_rmap hw'.2)⟩) hS ?_
      simp only [Act.put, List.setIfInBounds_toArray, List.set_cons_zero, List.set_cons_succ]
      refine take_lawH 2 (some 41) (.agg (rmc (up s i 0) v).toArray) rfl rfl (by kernel_rfl) (by kernel_rfl) (by kernel_rfl) (fun _ _ _ h => h) (Or.inl ⟨by rfl, fun w' hw' => by exact exec_loadN 28 (.tmp 6) rfl _ rfl _ _ (load_cells rowy_rmap hw'.1)⟩) hS ?_
      simp only [Act.put, List.setIfInBounds_toArray, List.set_cons_zero, List.set_cons_succ]
      refine wpAnyH_ready (rs := [3]) (by kernel_rfl) (by simp) ?_
      refine AllReadyH.cons rfl (fun K hK => ?_) AllReadyH.nil
      refine step_callG y1 rfl (some 42) rfl 50 #[.tmp 40, .tmp 41] _ rfl (fun _ _ => rfl) #[.agg (rmc s (.slice ao n cap)).toArray, .agg (rmc (up s i 0) v).toArray] (by simp only [List.map_toArray, List.map_cons, List.map_nil]; rfl) (fun v9 w' => Pls w' v9 (gn (L.filter (nin i)) L) ∧ (∀ k, Blk v9 k → y1.heap.size ≤ k ∧ k < w'.heap.size) ∧ Below y1.heap.size y1 w') ((GN.out y1 HF.out.h HF.out.g.cl.1).mono fun e w' ⟨v9, h1, h2, h3, h4⟩ => ⟨v9, h1, h2, h3, h4⟩) ?_
      rintro vg y2 ⟨P9, K9, B9⟩
      have VG : Hid (Pls y2 vg (gn (L.filter (nin i)) L)) := P9
      have KG : Hid (∀ k, Blk vg k → B ≤ k ∧ k < y2.heap.size) := fun k hk => ⟨Nat.le_trans HF.out.lt.2.2.2.2.2.2 (K9 k hk).1, (K9 k hk).2⟩
      have HF : Hid (Fs w y2 B w.heap.size w1.heap.size w2.heap.size (rmc s (.slice ao n cap)) (rmc (fun _ => 0) (.slice none 0 0)) (up s i 0) v (L.filter (nin i))) := HF.out.below B9
      have hS : y2.rangeAt w2.heap.size 0 (rmc (up s i 0) v) ∧ y2.rangeAt w.heap.size 0 (rmc s (.slice ao n cap)) := ⟨HF.out.o.1, HF.out.a.1⟩
      clear P9 K9 B9
      refine hK.out _ _ hS (fun _ => ?_)
      simp only [Act.put, List.setIfInBounds_toArray, List.set_cons_zero, List.set_cons_succ]
      clear hK K
      refine wpAnyH_ready (rs := [4]) (by kernel_rfl) (by simp) ?_
      refine AllReadyH.cons rfl (fun K hK => ?_) AllReadyH.nil
      refine step_storeG y2 rfl none rfl (.tmp 4) (.tmp 39) 28 rfl w1.heap.size (rmc (fun _ => 0) (.slice none 0 0)) (rmc (up s i 0) v) rfl rfl HF.out.r rfl size_rmap (rmc_one HF.out.g) ?_
      intro y3 X9 G9
      have VG : Hid (Pls y3 vg (gn (L.filter (nin i)) L)) := VG.out.ch (P := fun k => k = w1.heap.size) (Ch.of_grown (P := fun k => k = w1.heap.size) G9 rfl) (fun k hk e => by have := KG.out k hk; have := HF.out.lt; subst e; omega)
      have KG : Hid (∀ k, Blk vg k → B ≤ k ∧ k < y3.heap.size) := fun k hk => ⟨(KG.out k hk).1, Nat.lt_of_lt_of_le (KG.out k hk).2 G9.size⟩
      have HF : Hid (Fs w y3 B w.heap.size w1.heap.size w2.heap.size (rmc s (.slice ao n cap)) (rmc (up s i 0) v) (up s i 0) v (L.filter (nin i))) := HF.out.put G9 X9 (Nat.succ_pos _)
      have hS : y3.rangeAt w2.heap.size 0 (rmc (up s i 0) v) ∧ y3.rangeAt w.heap.size 0 (rmc s (.slice ao n cap)) := ⟨HF.out.o.1, HF.out.a.1⟩
      clear X9 G9
      refine hK.out _ _ hS (fun _ => ?_)
      simp only [Act.put]
      clear hK K
      refine take_lawH 5 (some 5) (vg) rfl rfl (by kernel_rfl) (by kernel_rfl) (by kernel_rfl) (fun _ _ _ h => h) (Or.inl ⟨by rfl, fun w' hw' => by rfl⟩) hS ?_
      simp only [Act.put, List.setIfInBounds_toArray, List.set_cons_zero, List.set_cons_succ]
      refine wpAnyH_done (by kernel_rfl) ?_ _
      go_wp2
      refine bodyPost_ret (v := .tuple #[.agg (rmc (up s i 0) v).toArray, vg]) (results_cv rfl _ _ w1.heap.size _ vg rowy_rmap rfl rfl HF.out.r.1) rfl ⟨v, vg, rfl, ?_, ?_, ?_, ?_, HF.out.h⟩
      · exact HF.out.g.cl.1
      · intro k hk; have z := HF.out.g.cl.2 k hk; have := LO.out; have := HF.out.lt; exact ⟨by omega, z.2⟩
      · exact VG.out
      · intro k hk; have z := KG.out k hk; have := LO.out; have := HF.out.lt; exact ⟨by omega, z.2⟩
end Go.Proofs.Ytedmmpognhpbdaa.pm
