/- A map of the reference that is made anew, cell by cell, and what its Move answers. No claim of its own. -/
import Derived.Test.YtedmmpognhpbdaaJGn
namespace Go.Proofs.Ytedmmpognhpbdaa.pm
open Go.RowKit Go.Proofs.Ytedmmpognhpbdaa.he
set_option maxRecDepth 20000

def sets (cs : List Value) (k : Nat) : List Value → List Value
  | [] => cs
  | u :: us => sets (cs.set k u) (k + 1) us
theorem At.sets {d : Nat} : ∀ (us : List Value) (w : World) (k : Nat) (cs : List Value), k + us.length ≤ cs.length → Vr w d cs → Vr (w.setCells d k us) d (sets cs k us)
  | [], _, _, _, _, h => h
  | u :: us, w, k, cs, hk, h => by
    have h1 : At (w.setCell ⟨d, 0 + k, none⟩ u) d 0 (cs.set k u) := At.set (q := 0) h k (by simp at hk; omega) u
    rw [Nat.zero_add] at h1
    exact At.sets us _ (k + 1) (cs.set k u) (by simp at hk ⊢; omega) h1
theorem Og.one {B : Nat} {w : World} {v : Value} {l : List Ce} (h : Og B w v l) : v.oneCell' = true ∧ v.cells = #[v] := by
  obtain ⟨_, h2⟩ := h
  rcases h2 with ⟨rfl, _⟩ | ⟨g, cap, cur, rfl, _⟩
  · exact ⟨rfl, rfl⟩
  · exact ⟨rfl, rfl⟩
theorem rmc_one {B : Nat} {w : World} {s : Nat → Nat} {v : Value} {l : List Ce} (h : Og B w v l) : ∀ u ∈ rmc s v, u.oneCell' = true := fun u hu => by
  simp only [rmc, List.mem_cons, List.not_mem_nil, or_false] at hu
  rcases hu with rfl | rfl | rfl | rfl | rfl
  · rfl
  · rfl
  · rfl
  · rfl
  · exact h.one.1
theorem sz_cells : (Try.prog.info? 26).map (·.size) = some 1 := by kernel_rfl
theorem rowy_arr4 : Rowy 25 4 := ⟨⟨_, Try.underlying25, rfl⟩, by kernel_rfl⟩
theorem load_sz {w : World} {b : Nat} {s : Nat → Nat} {v : Value} (h : Vr w b (rmc s v)) : w.rangeAt b 0 (sz4 s) := fun j u hu => by
  have hj : j < 4 := (List.getElem?_eq_some_iff.1 hu).1
  refine h.1 j u ?_
  rw [← hu]
  rcases (show j = 0 ∨ j = 1 ∨ j = 2 ∨ j = 3 by omega) with rfl | rfl | rfl | rfl <;> rfl
theorem rmc_set (s : Nat → Nat) (v u : Value) : (rmc s v).set 4 u = rmc s u := rfl
theorem rmc_sz (s : Nat → Nat) (v : Value) (i : Nat) (hi : i < 4) (n : Nat) : (rmc s v).set i (.int .i64 (n : Int)) = rmc (up s i n) v := by
  rcases four hi with rfl | rfl | rfl | rfl <;> rfl
/-- variables that stay, the map that is made, and its cells -/
structure Ms (w wr : World) (B : Nat) (vs : List (Nat × List Value)) (bo : Nat) (s : Nat → Nat) (vo vg : Value) (l : List Ce) : Prop where
  vs : ∀ x ∈ vs, Vr wr x.1 x.2 ∧ x.1 < B ∧ x.1 ≠ bo ∧ 0 < x.2.length
  o : Vr wr bo (rmc s vo)
  g : Og B wr vg l
  h : Below w.heap.size w wr
  lo : w.heap.size ≤ bo ∧ bo < B
  lb : B ≤ wr.heap.size
section
variable {w wr w' : World} {B bo : Nat} {vs : List (Nat × List Value)} {s : Nat → Nat} {vo vg v' : Value} {l l' : List Ce}
theorem Ms.below (h : Ms w wr B vs bo s vo vg l) (hb : Below wr.heap.size wr w') : Ms w w' B vs bo s vo vg l :=
  ⟨fun x hx => ⟨(h.vs x hx).1.below hb (range_lt (h.vs x hx).1.1 (h.vs x hx).2.2.2), (h.vs x hx).2⟩, h.o.below hb (range_lt h.o.1 (Nat.succ_pos _)), h.g.below hb, h.h.trans (hb.mono h.h.size), h.lo, Nat.le_trans h.lb hb.size⟩
theorem Ms.push (h : Ms w wr B vs bo s vo vg l) (hg : wr.grownBy w' vg.ownBlock) (ho : Og B w' v' l') : Ms w w' B vs bo s vo v' l' := by
  have hB := h.g.cl.2
  have hne : ∀ k, k < B → some k ≠ vg.ownBlock := fun k hk e => by have := hB k e.symm; omega
  exact ⟨fun x hx => ⟨(h.vs x hx).1.heap (hg.block _ (range_lt (h.vs x hx).1.1 (h.vs x hx).2.2.2) (hne _ (h.vs x hx).2.1)), (h.vs x hx).2⟩, h.o.heap (hg.block _ (range_lt h.o.1 (Nat.succ_pos _)) (hne _ h.lo.2)), ho, h.h.grown hg h.h.size fun k hk => by have := hB k hk; have := h.lo; omega, h.lo, Nat.le_trans h.lb hg.size⟩
theorem Ms.put (h : Ms w wr B vs bo s vo vg l) (hg : wr.grownBy w' (some bo)) (hV : Vr w' bo ((rmc s vo).set 4 vg)) : Ms w w' B vs bo s vg vg l :=
  ⟨fun x hx => ⟨(h.vs x hx).1.heap (hg.block _ (range_lt (h.vs x hx).1.1 (h.vs x hx).2.2.2) (fun e => (h.vs x hx).2.2.1 (Option.some.inj e))), (h.vs x hx).2⟩, hV, h.g.ch (P := fun k => k = bo) ⟨hg.os, hg.tape, hg.output, hg.size, fun k hk hn => hg.block k hk (fun e => hn (Option.some.inj e))⟩ (fun k hk e => by have := h.g.cl.2 k hk; have := h.lo; omega), h.h.grown hg h.h.size fun k hk => by cases hk; exact h.lo.1, h.lo, Nat.le_trans h.lb hg.size⟩
theorem Ms.var (h : Ms w wr B vs bo s vo vg l) {b : Nat} {cs : List Value} (hm : (b, cs) ∈ vs) : Vr wr b cs := (h.vs _ hm).1
end
/-- a spot that was at p is at q -/
def mvS (p q : PL) (o : Hd) (x : Sp) : Sp := if x.p = p then { x with p := q, o := o } else x
def mvC (p q : PL) (o : Hd) (c : Ce) : Ce := { c with s := mvS p q o c.s }
theorem mvC_yes {p q : PL} {o : Hd} {c : Ce} (h : c.s.p = p) : mvC p q o c = { c with s := { c.s with p := q, o := o } } := by
  unfold mvC mvS
  rw [if_pos h]
theorem mvC_no {p q : PL} {o : Hd} {c : Ce} (h : ¬ c.s.p = p) : mvC p q o c = c := by
  unfold mvC mvS
  rw [if_neg h]
theorem ms_five {w w1 w2 w3 w4 w5 w7 : World} {B : Nat} {c0 c1 c2 c3 c4 : List Value} {s : Nat → Nat} (hB : B = w7.heap.size) (V0 : Vr w5 w.heap.size c0) (V1 : Vr w5 w1.heap.size c1) (V2 : Vr w5 w2.heap.size c2) (V3 : Vr w5 w3.heap.size c3) (V4 : Vr w5 w4.heap.size c4) (V5 : Vr w7 w5.heap.size (rmc s (.slice none 0 0))) (B7 : Below w5.heap.size w5 w7) (BB : Below w.heap.size w w5) (p0 : 0 < c0.length := by exact Nat.succ_pos _) (p1 : 0 < c1.length := by exact Nat.succ_pos _) (p2 : 0 < c2.length := by exact Nat.succ_pos _) (p3 : 0 < c3.length := by exact Nat.succ_pos _) (p4 : 0 < c4.length := by exact Nat.succ_pos _) : Ms w w7 B [(w.heap.size, c0), (w1.heap.size, c1), (w2.heap.size, c2), (w3.heap.size, c3), (w4.heap.size, c4)] w5.heap.size s (.slice none 0 0) (.slice none 0 0) [] := by
  have l0 := range_lt V0.1 p0
  have l1 := range_lt V1.1 p1
  have l2 := range_lt V2.1 p2
  have l3 := range_lt V3.1 p3
  have l4 := range_lt V4.1 p4
  have l5 := range_lt V5.1 (Nat.succ_pos _)
  have hs := B7.size
  refine ⟨fun x hx => ?_, V5, Og.nil B w7, BB.trans (B7.mono BB.size), ⟨by omega, by omega⟩, by omega⟩
  simp only [List.mem_cons, List.not_mem_nil, or_false] at hx
  rcases hx with rfl | rfl | rfl | rfl | rfl
  · exact ⟨V0.below B7 l0, by show _ < _; omega, by show _ ≠ _; omega, p0⟩
  · exact ⟨V1.below B7 l1, by show _ < _; omega, by show _ ≠ _; omega, p1⟩
  · exact ⟨V2.below B7 l2, by show _ < _; omega, by show _ ≠ _; omega, p2⟩
  · exact ⟨V3.below B7 l3, by show _ < _; omega, by show _ ≠ _; omega, p3⟩
  · exact ⟨V4.below B7 l4, by show _ < _; omega, by show _ ≠ _; omega, p4⟩
theorem there_in {w : World} {b n k m : Nat} (h : w.there b 0 n) (hk : k + m ≤ n) : w.there b k m := fun j hj => by
  have := h (k + j) (by omega)
  rwa [Nat.zero_add] at this
theorem size_hd : (Try.prog.info? 35).map (·.size) = some 6 := by kernel_rfl
set_option maxHeartbeats 16000000 in
theorem rmove_any (s : Nat → Nat) (v : Value) (L : List Ce) (p q : PL) (h : Hd) (w : World) (hL : Cl w v L) (hn : L.length ≤ 100000) : Calls Try.prog 31 #[.agg (rmc s v).toArray, .agg (pc p).toArray, .agg (pc q).toArray, .agg h.cs.toArray] w fun e w' => ∃ v', e = .returned (.agg (rmc s v').toArray) ∧ Cl w' v' (L.map (mvC p q h)) ∧ (∀ k, Blk v' k → w.heap.size ≤ k ∧ k < w'.heap.size) ∧ Below w.heap.size w w' := by
  obtain ⟨ao, cap, rfl, hr⟩ := hL
  obtain ⟨n, hN⟩ : ∃ n, n = L.length := ⟨_, rfl⟩
  have HR : Hid (0 < n → ∃ g, ao = some ⟨g, 0, none⟩ ∧ Rc w g L) := by rw [hN]; exact hr
  have NN : Hid (n = L.length) := hN
  rw [← hN]
  have n9 : (n : Int) ≤ 100000 := by omega
  clear hr hn hN
  have t0 : (0 : Nat) = 0 := rfl
  go_enter Try.func31, Try.ntmps31
  go_wp2_with (first
    | (have qq := t8; (with_reducible refine at_store ?_); refine store_lawC _ (rmc s (.slice none 0 0)) w5.heap.size 0 rfl rfl VZ.out.2 size_rmap (fun v hv => by simp [rmc] at hv; rcases hv with rfl | rfl | rfl | rfl | rfl <;> rfl) ?_; intro w7 _ r9 h9 B9; have V5 : Hid (Vr w7 w5.heap.size (rmc s (.slice none 0 0))) := ⟨r9, h9⟩; have B7 : Hid (Below w5.heap.size w5 w7) := B6.out.trans B9; clear r9 h9 B9 VZ B6 t8)
    | (have qq := t7; (with_reducible refine at_alloc ?_); refine new_lawC _ _ zero_rmap ?_; intro w6 X9 B9 l9; have VZ : Hid (Vr w6 w5.heap.size (rmc (fun _ => 0) (.slice none 0 0))) := X9; have B6 : Hid (Below w5.heap.size w5 w6) := B9; clear X9 B9 l9 t7; have t8 : (0 : Nat) = 0 := rfl)
    | (have qq := t6; refine build_law _ rfl 28 _ rfl (.agg (rmc s (.slice none 0 0)).toArray) (by kernel_rfl) ?_; clear t6; have t7 : (0 : Nat) = 0 := rfl)
    | (have qq := t5; refine load_law _ (by rfl) 25 (.tmp 12) rfl w.heap.size 0 (sz4 s) rfl rowy_arr4 (load_sz V0.out) ?_; clear t5; have t6 : (0 : Nat) = 0 := rfl)
    | (have qq := t4; (with_reducible refine at_alloc ?_); refine new_lawC _ _ zero_rmap ?_; intro w5 X9 B9 l9; have V4 : Hid (Vr w5 w4.heap.size (rmc (fun _ => 0) (.slice none 0 0))) := X9; have V0 : Hid (Vr w5 w.heap.size (rmc s (.slice ao n cap))) := V0.out.below B9 (range_lt V0.out.1 (Nat.succ_pos _)); have V1 : Hid (Vr w5 w1.heap.size (pc p)) := V1.out.below B9 (range_lt V1.out.1 (Nat.succ_pos _)); have V2 : Hid (Vr w5 w2.heap.size (pc q)) := V2.out.below B9 (range_lt V2.out.1 (Nat.succ_pos _)); have V3 : Hid (Vr w5 w3.heap.size h.cs) := V3.out.below B9 (range_lt V3.out.1 (Nat.succ_pos _)); have BB : Hid (Below w.heap.size w w5) := BB.out.trans (B9.mono BB.out.size); have L4 : Hid (w4.heap.size < w5.heap.size) := l9; clear X9 B9 l9 t4; have t5 : (0 : Nat) = 0 := rfl)
    | (have qq := t3; refine box_lawC _ h.cs rfl ?_; intro w4 X9 B9 l9; have V3 : Hid (Vr w4 w3.heap.size h.cs) := X9; have V0 : Hid (Vr w4 w.heap.size (rmc s (.slice ao n cap))) := V0.out.below B9 (range_lt V0.out.1 (Nat.succ_pos _)); have V1 : Hid (Vr w4 w1.heap.size (pc p)) := V1.out.below B9 (range_lt V1.out.1 (Nat.succ_pos _)); have V2 : Hid (Vr w4 w2.heap.size (pc q)) := V2.out.below B9 (range_lt V2.out.1 (Nat.succ_pos _)); have BB : Hid (Below w.heap.size w w4) := BB.out.trans (B9.mono BB.out.size); have B4S : Hid (w.heap.size ≤ w4.heap.size) := BB.out.size; clear X9 B9 l9 t3; have t4 : (0 : Nat) = 0 := rfl)
    | (have qq := t2; refine box_lawC _ (pc q) rfl ?_; intro w3 X9 B9 l9; have V2 : Hid (Vr w3 w2.heap.size (pc q)) := X9; have V0 : Hid (Vr w3 w.heap.size (rmc s (.slice ao n cap))) := V0.out.below B9 (range_lt V0.out.1 (Nat.succ_pos _)); have V1 : Hid (Vr w3 w1.heap.size (pc p)) := V1.out.below B9 (range_lt V1.out.1 (Nat.succ_pos _)); have BB : Hid (Below w.heap.size w w3) := BB.out.trans (B9.mono BB.out.size); clear X9 B9 l9 t2; have t3 : (0 : Nat) = 0 := rfl)
    | (have qq := t1; refine box_lawC _ (pc p) rfl ?_; intro w2 X9 B9 l9; have V1 : Hid (Vr w2 w1.heap.size (pc p)) := X9; have V0 : Hid (Vr w2 w.heap.size (rmc s (.slice ao n cap))) := V0.out.below B9 (range_lt V0.out.1 (Nat.succ_pos _)); have BB : Hid (Below w.heap.size w w2) := BB.out.trans (B9.mono BB.out.size); clear X9 B9 l9 t1; have t2 : (0 : Nat) = 0 := rfl)
    | (have qq := t0; refine box_lawC _ (rmc s (.slice ao n cap)) rfl ?_; intro w1 X9 B9 l9; have V0 : Hid (Vr w1 w.heap.size (rmc s (.slice ao n cap))) := X9; have BB : Hid (Below w.heap.size w w1) := B9; clear X9 B9 l9 t0; have t1 : (0 : Nat) = 0 := rfl))
  obtain ⟨B, hB⟩ : ∃ B, B = w7.heap.size := ⟨_, rfl⟩
  have HM : Hid (Ms w w7 B [(w.heap.size, rmc s (.slice ao n cap)), (w1.heap.size, pc p), (w2.heap.size, pc q), (w3.heap.size, h.cs), (w4.heap.size, rmc (fun _ => 0) (.slice none 0 0))] w5.heap.size s (.slice none 0 0) (.slice none 0 0) ((L.take 0).map (mvC p q h))) := ms_five hB V0.out V1.out V2.out V3.out V4.out V5.out B7.out BB.out
  have LO : Hid (w.heap.size ≤ w4.heap.size) := B4S.out
  clear V0 V1 V2 V3 V4 V5 B7 BB L4 hB B4S
  go_loopw [10, 11] (fun iv _ wr => ∃ (k : Nat) (v : Value), k ≤ n ∧ iv = .int .i64 k ∧ Hid (Ms w wr B [(w.heap.size, rmc s (.slice ao n cap)), (w1.heap.size, pc p), (w2.heap.size, pc q), (w3.heap.size, h.cs), (w4.heap.size, rmc (fun _ => 0) (.slice none 0 0))] w5.heap.size s v v ((L.take k).map (mvC p q h)))) (fun iv _ _ => n - (intOf iv).toNat)
  case atStart => exact ⟨0, _, Nat.zero_le _, rfl, HM⟩
  case round =>
    clear HM
    obtain ⟨k, v, hk, rfl, HM⟩ := hrel
    have k0 : (0 : Int) ≤ (k : Int) := by omega
    have kw : IntKind.i64.wrap ((k : Int) + 1) = ((k + 1 : Nat) : Int) := by rw [IntKind.wrap_i64]; omega
    have nv : wr.cell? ⟨w.heap.size, 4, none⟩ = some (.slice ao n cap) := (HM.out.var (List.mem_of_getElem? (i := 0) rfl)).cell 4 _ rfl
    by_cases hlt : k < n
    · have k1 : (k : Int) < (n : Int) := by omega
      obtain ⟨x, hx⟩ : ∃ x, L[k]? = some x := ⟨_, List.getElem?_eq_getElem (by have := NN.out; omega)⟩
      obtain ⟨g, rfl, hr⟩ := HR.out (by omega)
      have nx := cells16 ((hr.below HM.out.h) k x hx).1
      have HX : Hid (L[k]? = some x) := hx
      have KN : Hid (((L.take k).map (mvC p q h)).length ≤ 100000) := by show _ ≤ _; rw [List.length_map, List.length_take]; omega
      have gd : Try.prog.eqGuardType Try.prog.depth 31 = false := by kernel_rfl
      clear hr hx
      by_cases hp : x.s.p = p
      · skip
        have eq : ∀ W : World, (Op.equalIn 10000 31 (.agg (pc x.s.p).toArray) (.agg (pc p).toArray)).run Try.prog W = .ok true W := fun W => (run_equal x.s.p p W).trans (by rw [decide_eq_true hp])
        have LL : Hid ((L.take (k + 1)).map (mvC p q h) = (L.take k).map (mvC p q h) ++ [({ x with s := { x.s with p := q, o := h } } : Ce)]) := by show _ = _; rw [take_more HX.out, List.map_append]; simp [mvC_yes hp]
        clear hp
        have t0 : (0 : Nat) = 0 := rfl
        go_wp2_with (first
          | (have qq := t12; (with_reducible refine at_store ?_); refine set_law1 _ rfl (.tmp 43) (.tmp 42) 26 rfl (rmc s v) w5.heap.size 4 v9 rfl rfl HM.out.o (by show 4 < 5; omega) HM.out.g.one.1 HM.out.g.one.2 sz_cells ?_; intro wg X9 G9; have HM : Hid (Ms w wg B [(w.heap.size, rmc s (.slice (some ⟨g, 0, none⟩) n cap)), (w1.heap.size, pc p), (w2.heap.size, pc q), (w3.heap.size, h.cs), (w4.heap.size, rmc (fun _ => 0) (.slice none 0 0))] w5.heap.size s v9 v9 ((L.take (k + 1)).map (mvC p q h))) := HM.out.put G9 X9; clear X9 G9 t12)
          | (have qq := t11; refine push_lawG _ rfl (.tmp 39) (.tmp 41) rfl B HM.out.lb v ((L.take k).map (mvC p q h)) wd.heap.size ({ x with s := { x.s with p := q, o := h } } : Ce) rfl rfl HM.out.g VL.out KN.out ?_; intro v9 wf O9 G9; have O8 : Hid (Og B wf v9 ((L.take (k + 1)).map (mvC p q h))) := (by rw [← LL.out] at O9; exact O9); have HM : Hid (Ms w wf B [(w.heap.size, rmc s (.slice (some ⟨g, 0, none⟩) n cap)), (w1.heap.size, pc p), (w2.heap.size, pc q), (w3.heap.size, h.cs), (w4.heap.size, rmc (fun _ => 0) (.slice none 0 0))] w5.heap.size s v v9 ((L.take (k + 1)).map (mvC p q h))) := HM.out.push G9 O8.out; clear O9 G9 O8 VL t11; have t12 : (0 : Nat) = 0 := rfl)
          | (have qq := t10; refine one_lawG _ rfl (.tmp 40) ({ x with s := { x.s with p := q, o := h } } : Ce) rfl rfl ?_; intro we X9 B9 _; have VL : Hid (Vr we wd.heap.size ({ x with s := { x.s with p := q, o := h } } : Ce).cs) := X9; have HM : Hid (Ms w we B [(w.heap.size, rmc s (.slice (some ⟨g, 0, none⟩) n cap)), (w1.heap.size, pc p), (w2.heap.size, pc q), (w3.heap.size, h.cs), (w4.heap.size, rmc (fun _ => 0) (.slice none 0 0))] w5.heap.size s v v ((L.take k).map (mvC p q h))) := HM.out.below B9; clear X9 B9 t10; have t11 : (0 : Nat) = 0 := rfl)
          | (have qq := t8; refine load_law _ (by rfl) 51 (.tmp 11) rfl wr.heap.size 0 ({ x with s := { x.s with p := q, o := h } } : Ce).cs rfl rowy_cell VC.out.1 ?_; have HM : Hid (Ms w wd B [(w.heap.size, rmc s (.slice (some ⟨g, 0, none⟩) n cap)), (w1.heap.size, pc p), (w2.heap.size, pc q), (w3.heap.size, h.cs), (w4.heap.size, rmc (fun _ => 0) (.slice none 0 0))] w5.heap.size s v v ((L.take k).map (mvC p q h))) := HM.out.below BN.out; clear t8 BN VC no; have t10 : (0 : Nat) = 0 := rfl)
          | (have qq := t7; (with_reducible refine at_store ?_); refine store_lawC _ h.cs wr.heap.size 10 rfl rfl (there_in VC.out.2 (by show 10 + 6 ≤ 16; omega)) size_hd h.one ?_; intro wd e9 _ _ B9; have VC : Hid (Vr wd wr.heap.size ({ x with s := { x.s with p := q, o := h } } : Ce).cs) := (by have z := At.sets h.cs _ 10 ({ x with s := { x.s with p := q } } : Ce).cs (by show 10 + 6 ≤ 16; omega) VC.out; rw [← e9.out] at z; exact z); have BN : Hid (Below wr.heap.size wr wd) := BN.out.trans B9; have no : wd.cell? ⟨w5.heap.size, 4, none⟩ = some v := (HM.out.below BN.out).o.cell 4 _ rfl; clear e9 B9 t7; have t8 : (0 : Nat) = 0 := rfl)
          | (have qq := t6; refine load_law _ (by rfl) 35 (.tmp 7) rfl w3.heap.size 0 h.cs rfl rowy_hd ((HM.out.below BN.out).var (List.mem_of_getElem? (i := 3) rfl)).1 ?_; clear t6; have t7 : (0 : Nat) = 0 := rfl)
          | (have qq := t5; (with_reducible refine at_store ?_); refine store_lawC _ (pc q) wr.heap.size 2 rfl rfl (there_in VC.out.2 (by show 2 + 2 ≤ 16; omega)) size_place (pc_one q) ?_; intro wc e9 _ _ B9; have VC : Hid (Vr wc wr.heap.size ({ x with s := { x.s with p := q } } : Ce).cs) := (by have z := At.sets (pc q) _ 2 x.cs (by show 2 + 2 ≤ 16; omega) VC.out; rw [← e9.out] at z; exact z); have BN : Hid (Below wr.heap.size wr wc) := BN.out.trans B9; clear e9 B9 t5; have t6 : (0 : Nat) = 0 := rfl)
          | (have qq := t4; refine load_law _ (by rfl) 31 (.tmp 6) rfl w2.heap.size 0 (pc q) rfl rowy_place ((HM.out.below BN.out).var (List.mem_of_getElem? (i := 2) rfl)).1 ?_; clear t4; have t5 : (0 : Nat) = 0 := rfl)
          | (have qq := t3; refine load_law _ (by rfl) 31 (.tmp 5) rfl w1.heap.size 0 (pc p) rfl rowy_place ((HM.out.below BN.out).var (List.mem_of_getElem? (i := 1) rfl)).1 ?_; clear t3; have t4 : (0 : Nat) = 0 := rfl)
          | (have qq := t2; refine load_law _ (by rfl) 31 (.tmp 28) rfl wr.heap.size 2 (pc x.s.p) rfl rowy_place (by have z := place_at (spot_in VC.out.1); exact z) ?_; clear t2; have t3 : (0 : Nat) = 0 := rfl)
          | (have qq := t1; (with_reducible refine at_store ?_); refine store_lawC _ x.cs wr.heap.size 0 rfl rfl VZ.out.2 size_cell x.one ?_; intro wb _ r9 h9 B9; have VC : Hid (Vr wb wr.heap.size x.cs) := ⟨r9, h9⟩; have BN : Hid (Below wr.heap.size wr wb) := BN.out.trans B9; clear r9 h9 B9 VZ t1; have t2 : (0 : Nat) = 0 := rfl)
          | (have qq := t0; (with_reducible refine at_alloc ?_); refine new_lawC _ ce0.cs zero_cell ?_; intro wa X9 B9 l9; have VZ : Hid (Vr wa wr.heap.size ce0.cs) := X9; have BN : Hid (Below wr.heap.size wr wa) := B9; clear X9 B9 l9 t0; have t1 : (0 : Nat) = 0 := rfl))
        go_roundw
        case rel => exact ⟨k + 1, v9, by omega, by go_num, HM⟩
        case measure => simp [intOf]; omega
      · skip
        have eq : ∀ W : World, (Op.equalIn 10000 31 (.agg (pc x.s.p).toArray) (.agg (pc p).toArray)).run Try.prog W = .ok false W := fun W => (run_equal x.s.p p W).trans (by rw [decide_eq_false hp])
        have LL : Hid ((L.take (k + 1)).map (mvC p q h) = (L.take k).map (mvC p q h) ++ [x]) := by show _ = _; rw [take_more HX.out, List.map_append]; simp [mvC_no hp]
        clear hp
        have t0 : (0 : Nat) = 0 := rfl
        go_wp2_with (first
          | (have qq := t12; (with_reducible refine at_store ?_); refine set_law1 _ rfl (.tmp 43) (.tmp 42) 26 rfl (rmc s v) w5.heap.size 4 v9 rfl rfl HM.out.o (by show 4 < 5; omega) HM.out.g.one.1 HM.out.g.one.2 sz_cells ?_; intro wg X9 G9; have HM : Hid (Ms w wg B [(w.heap.size, rmc s (.slice (some ⟨g, 0, none⟩) n cap)), (w1.heap.size, pc p), (w2.heap.size, pc q), (w3.heap.size, h.cs), (w4.heap.size, rmc (fun _ => 0) (.slice none 0 0))] w5.heap.size s v9 v9 ((L.take (k + 1)).map (mvC p q h))) := HM.out.put G9 X9; clear X9 G9 t12)
          | (have qq := t11; refine push_lawG _ rfl (.tmp 39) (.tmp 41) rfl B HM.out.lb v ((L.take k).map (mvC p q h)) wb.heap.size x rfl rfl HM.out.g VL.out KN.out ?_; intro v9 wf O9 G9; have O8 : Hid (Og B wf v9 ((L.take (k + 1)).map (mvC p q h))) := (by rw [← LL.out] at O9; exact O9); have HM : Hid (Ms w wf B [(w.heap.size, rmc s (.slice (some ⟨g, 0, none⟩) n cap)), (w1.heap.size, pc p), (w2.heap.size, pc q), (w3.heap.size, h.cs), (w4.heap.size, rmc (fun _ => 0) (.slice none 0 0))] w5.heap.size s v v9 ((L.take (k + 1)).map (mvC p q h))) := HM.out.push G9 O8.out; clear O9 G9 O8 VL t11; have t12 : (0 : Nat) = 0 := rfl)
          | (have qq := t10; refine one_lawG _ rfl (.tmp 40) x rfl rfl ?_; intro we X9 B9 _; have VL : Hid (Vr we wb.heap.size x.cs) := X9; have HM : Hid (Ms w we B [(w.heap.size, rmc s (.slice (some ⟨g, 0, none⟩) n cap)), (w1.heap.size, pc p), (w2.heap.size, pc q), (w3.heap.size, h.cs), (w4.heap.size, rmc (fun _ => 0) (.slice none 0 0))] w5.heap.size s v v ((L.take k).map (mvC p q h))) := HM.out.below B9; clear X9 B9 t10; have t11 : (0 : Nat) = 0 := rfl)
          | (have qq := t4; refine load_law _ (by rfl) 51 (.tmp 11) rfl wr.heap.size 0 x.cs rfl rowy_cell VC.out.1 ?_; have HM : Hid (Ms w wb B [(w.heap.size, rmc s (.slice (some ⟨g, 0, none⟩) n cap)), (w1.heap.size, pc p), (w2.heap.size, pc q), (w3.heap.size, h.cs), (w4.heap.size, rmc (fun _ => 0) (.slice none 0 0))] w5.heap.size s v v ((L.take k).map (mvC p q h))) := HM.out.below BN.out; clear t4 BN VC no; have t10 : (0 : Nat) = 0 := rfl)
          | (have qq := t3; refine load_law _ (by rfl) 31 (.tmp 5) rfl w1.heap.size 0 (pc p) rfl rowy_place ((HM.out.below BN.out).var (List.mem_of_getElem? (i := 1) rfl)).1 ?_; clear t3; have t4 : (0 : Nat) = 0 := rfl)
          | (have qq := t2; refine load_law _ (by rfl) 31 (.tmp 28) rfl wr.heap.size 2 (pc x.s.p) rfl rowy_place (by have z := place_at (spot_in VC.out.1); exact z) ?_; clear t2; have t3 : (0 : Nat) = 0 := rfl)
          | (have qq := t1; (with_reducible refine at_store ?_); refine store_lawC _ x.cs wr.heap.size 0 rfl rfl VZ.out.2 size_cell x.one ?_; intro wb _ r9 h9 B9; have VC : Hid (Vr wb wr.heap.size x.cs) := ⟨r9, h9⟩; have BN : Hid (Below wr.heap.size wr wb) := BN.out.trans B9; have no : wb.cell? ⟨w5.heap.size, 4, none⟩ = some v := (HM.out.below BN.out).o.cell 4 _ rfl; clear r9 h9 B9 VZ t1; have t2 : (0 : Nat) = 0 := rfl)
          | (have qq := t0; (with_reducible refine at_alloc ?_); refine new_lawC _ ce0.cs zero_cell ?_; intro wa X9 B9 l9; have VZ : Hid (Vr wa wr.heap.size ce0.cs) := X9; have BN : Hid (Below wr.heap.size wr wa) := B9; clear X9 B9 l9 t0; have t1 : (0 : Nat) = 0 := rfl))
        go_roundw
        case rel => exact ⟨k + 1, v9, by omega, by go_num, HM⟩
        case measure => simp [intOf]; omega
    · have k1 : ¬ (k : Int) < (n : Int) := by omega
      have t0 : (0 : Nat) = 0 := rfl
      go_wp2_with (first
        | (have qq := t1; (with_reducible refine at_store ?_); refine store_lawC _ (rmc s v) w4.heap.size 0 rfl rfl (HM.out.var (List.mem_of_getElem? (i := 4) rfl)).2 size_rmap (rmc_one HM.out.g) ?_; intro w9 e9 r9 _ _; have R9 : Hid (w9.rangeAt w4.heap.size 0 (rmc s v)) := r9; have G9 : Hid (wr.grownBy w9 (some w4.heap.size)) := (by rw [e9.out]; exact (wrt_cells wr w4.heap.size 0 5 _ rfl).1); clear e9 r9 t1)
        | (have qq := t0; refine load_law _ (by rfl) 28 (.tmp 9) rfl w5.heap.size 0 (rmc s v) rfl rowy_rmap HM.out.o.1 ?_; clear t0; have t1 : (0 : Nat) = 0 := rfl))
      have HG : Hid (Og B w9 v ((L.take k).map (mvC p q h))) := HM.out.g.ch (P := fun k => k = w4.heap.size) (Ch.of_grown (P := fun k => k = w4.heap.size) G9.out rfl) (fun k hk e => by have := HM.out.g.cl.2 k hk; have := (HM.out.vs _ (List.mem_of_getElem? (i := 4) rfl)).2.1; subst e; omega)
      have HX : Hid (Below w.heap.size w w9 ∧ w.heap.size ≤ B) := ⟨HM.out.h.grown G9.out HM.out.h.size (fun k hk => by cases hk; exact LO.out), by have := HM.out.lo; omega⟩
      refine bodyPost_ret (v := .agg (rmc s v).toArray) (results_c rfl _ _ w4.heap.size _ rowy_rmap rfl R9.out) rfl ⟨v, rfl, ?_, fun k hk => ?_, HX.out.1⟩
      · have z := HG.out.cl.1
        rwa [List.take_of_length_le (by have := NN.out; omega)] at z
      · have z := HG.out.cl.2 k hk
        have := HX.out.2
        omega
end Go.Proofs.Ytedmmpognhpbdaa.pm
