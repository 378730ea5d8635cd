/- What Sum of a hash answers. No claim of its own. -/
import Derived.Test.YtaplllonomdgeaaWrite
namespace Go.Proofs.Ytaplllonomdgeaa
open Go.RowKit

/-- a hash's cells -/
def hcells (st tl : List Int) (n : Nat) : List Value := st.map (Value.int .u32) ++ (tl.map (Value.int .u8) ++ [.int .i64 n])
theorem hcells_len (st tl : List Int) (n : Nat) (h1 : st.length = 8) (h2 : tl.length = 64) : (hcells st tl n).length = 73 := by simp [hcells, h1, h2]
theorem hcells_one (st tl : List Int) (n : Nat) : ∀ v ∈ hcells st tl n, v.oneCell' = true := by
  intro v hv
  simp only [hcells, List.mem_append, List.mem_map, List.mem_singleton] at hv
  rcases hv with ⟨x, _, rfl⟩ | ⟨x, _, rfl⟩ | rfl <;> rfl
theorem hsh_of {w : World} {b n : Nat} {st tl : List Int} (h1 : st.length = 8) (h2 : tl.length = 64) (hr : w.rangeAt b 0 (hcells st tl n)) (ht : w.there b 0 73) : Hsh w b st tl n := by
  have hf : ∀ i, i < 73 → w.frozen? ⟨b, i, none⟩ = false := fun i hi => by have := (ht i hi).2; rwa [Nat.zero_add] at this
  have hc : ∀ i v, (hcells st tl n)[i]? = some v → w.cell? ⟨b, i, none⟩ = some v := fun i v h => by have := hr i v h; rwa [Nat.zero_add] at this
  refine ⟨Ar.mk fun i hi => ?_, Ar.mk fun i hi => ?_, Ar.mk fun i hi => ?_⟩
  · rw [Nat.zero_add]
    refine ⟨hc i _ ?_, hf i (by omega)⟩
    unfold hcells
    rw [List.getElem?_append_left (by simpa using hi)]
    simp [gb, List.getD, hi]
  · refine ⟨hc (8 + i) _ ?_, hf _ (by omega)⟩
    unfold hcells
    rw [List.getElem?_append_right (by simp; omega), List.getElem?_append_left (by simp; omega)]
    simp [gb, List.getD, h1, hi]
  · have : i = 0 := by simpa using hi
    subst this
    refine ⟨hc 72 _ ?_, hf 72 (by omega)⟩
    unfold hcells
    rw [List.getElem?_append_right (by simp; omega), List.getElem?_append_right (by simp; omega)]
    simp [gb, h1, h2]
theorem hsh_range {w : World} {b n : Nat} {st tl : List Int} (h1 : st.length = 8) (h2 : tl.length = 64) (h : Hsh w b st tl n) : w.rangeAt b 0 (hcells st tl n) := by
  intro j v hv
  rw [Nat.zero_add]
  have hj : j < 73 := by rw [← hcells_len st tl n h1 h2]; exact (List.getElem?_eq_some_iff.1 hv).1
  unfold hcells at hv
  by_cases c1 : j < 8
  · rw [List.getElem?_append_left (by simp; omega)] at hv
    have := h.1.cell0 j (by omega)
    rw [this, ← hv]
    simp [gb, List.getD, show j < st.length by omega]
  · rw [List.getElem?_append_right (by simp; omega), List.length_map, h1] at hv
    by_cases c2 : j < 72
    · rw [List.getElem?_append_left (by simp; omega)] at hv
      have := h.2.1.cell (j - 8) (by omega)
      rw [show 8 + (j - 8) = j by omega] at this
      rw [this, ← hv]
      simp [gb, List.getD, show j - 8 < tl.length by omega]
    · have : j = 72 := by omega
      subst this
      rw [List.getElem?_append_right (by simp; omega)] at hv
      simp [h2] at hv
      rw [h.size, ← hv]
theorem z_hash : (Try.prog.info? 62).map (fun i => (i.zero, i.size)) = some (some (.agg (hcells z8 z64 0).toArray), 73) := by kernel_rfl
theorem i_hash : (Try.prog.info? 62).map (·.size) = some 73 := by kernel_rfl
theorem Has.new (w : World) : Has (w.alloc (.cells (hcells z8 z64 0).toArray 62)) w.heap.size [] := by
  refine ⟨z8, z64, hsh_of rfl rfl ?_ ?_, rfl, rfl, allB_replicate 0 64 (by omega), rfl, by simp⟩
  · intro j v hv
    rw [cell_of_row _ w.heap.size (0 + j) _ 62 (0, 0) (heap_alloc_last w _)]
    simpa using hv
  · intro j hj
    rw [cell_of_row _ w.heap.size (0 + j) _ 62 (0, 0) (heap_alloc_last w _)]
    refine ⟨?_, World.frozen?_alloc_at _ _ _ _ rfl⟩
    rw [Nat.zero_add, List.getElem?_toArray, List.getElem?_eq_getElem (by rw [hcells_len _ _ _ rfl rfl]; exact hj)]
    rfl
theorem Has.below {w w' : World} {b B : Nat} {xs : List Int} (h : Has w b xs) (hb : Below B w w') (hB : b < B) : Has w' b xs := by
  obtain ⟨st, tl, h1, h2⟩ := h
  exact ⟨st, tl, h1.below hb hB, h2⟩
theorem Has.lt {w : World} {b : Nat} {xs : List Int} (h : Has w b xs) : b < w.heap.size := by
  obtain ⟨st, tl, h1, h2⟩ := h
  exact h1.lt
/-- a row in another block lasts -/
theorem Ar.kept {w : World} {g b : Nat} {xs : List Int} (h : Ar w g 0 .u8 xs) (ha : AllB xs) (hp : 0 < xs.length) (hm : xs.length ≤ 9223372036854775807) (hne : g ≠ b) : Kept b w (.slice (some ⟨g, 0, none⟩) xs.length xs.length) xs := by
  intro w' hw
  have h' := h.heap (hw.block g (h.lt hp) hne)
  have := h'.byt ha 0 xs.length xs.length (by omega) (by omega) (by omega) hm
  rwa [List.take_length, List.drop_zero] at this

section
variable {ops : Array Oper} {rest : List Oper} {o : Oper} {a : Act} {Q : Exit → Act → World → Prop}
theorem hnew_law (w : World) (hg : o.guard = none) (hop : o.op = Op.alloc 62) (hK : ∀ w', w' = w.alloc (.cells (hcells z8 z64 0).toArray 62) → wpList Try.prog ops Q rest (a.put o.dst (.pointer (some ⟨w.heap.size, 0, none⟩))) w') :
    wpList Try.prog ops Q (o :: rest) a w := by
  refine wpList_plain hg fun K hK' => ?_
  have hz' := (zero_of_info z_hash).1
  unfold Oper.wp
  simp [execOp, hop, Instr.alloc, hz', newVar, newRow, Value.cells, Result.andThen]
  exact hK' _ _ (hK _ rfl)
theorem hstore_law (w : World) (hg : o.guard = none) (x y : Operand) (hop : o.op = Op.store 62 x y) (c : Nat) (cs : List Value) (hx : a.eval x = .pointer (some ⟨c, 0, none⟩)) (hy : a.eval y = .agg cs.toArray) (ht : w.there c 0 73) (hl : cs.length = 73) (h1 : ∀ v ∈ cs, v.oneCell' = true)
    (hK : ∀ w', w' = w.setCells c 0 cs → wpList Try.prog ops Q rest (a.put o.dst undef) w') : wpList Try.prog ops Q (o :: rest) a w :=
  wpList_store_mid hg 62 x y hop c 0 cs.toArray hx hy (by simpa [hl] using ht) (by rw [i_hash]; simp [hl]) (all_oneCell_toArray h1) (by simpa using hK _ rfl)
end

/-- the sum of a text -/
def sumOf (xs : List Int) : List Int := catw (upto (xs ++ padl xs.length) ((xs.length + (padl xs.length).length) / 64)) 8

set_option maxRecDepth 100000 in
set_option maxHeartbeats 2000000 in
theorem hsum_any (w : World) (b : Nat) (xs : List Int) (h : Has w b xs) (ha : AllB xs) (hn : xs.length ≤ 1000000) :
    Calls Try.prog 35 #[.pointer (some ⟨b, 0, none⟩)] w fun e w' => ∃ v, e = .returned v ∧ Byt w' v (sumOf xs) ∧ (∃ g, v = .slice (some ⟨g, 0, none⟩) 32 32 ∧ w.heap.size ≤ g ∧ Ar w' g 0 .u8 (sumOf xs)) ∧ Below w.heap.size w w' := by
  have hlt := h.lt
  obtain ⟨st, tl, h1, hl, htl, hta, hst, htt⟩ := h
  obtain ⟨w1, hw1⟩ : ∃ w1, w1 = w.alloc (.cells (hcells z8 z64 0).toArray 62) := ⟨_, rfl⟩
  obtain ⟨c, hc⟩ : ∃ c, c = w.heap.size := ⟨_, rfl⟩
  have B1 : Below w.heap.size w w1 := by rw [hw1]; exact (Below.refl _ _).alloc (Nat.le_refl _) _
  have HA1 : Has w1 c [] := by rw [hw1, hc]; exact Has.new w
  have hr1 : w1.rangeAt b 0 (hcells st tl xs.length) := hsh_range hl htl (h1.below B1 hlt)
  have ht1 : w1.there c 0 73 := by
    rw [hw1, hc]
    intro j hj
    rw [cell_of_row _ w.heap.size (0 + j) _ 62 (0, 0) (heap_alloc_last w _)]
    refine ⟨?_, World.frozen?_alloc_at _ _ _ _ rfl⟩
    rw [Nat.zero_add, List.getElem?_toArray, List.getElem?_eq_getElem (by rw [hcells_len _ _ _ rfl rfl]; exact hj)]
    rfl
  obtain ⟨cs, hcs⟩ : ∃ cs, cs = hcells st tl xs.length := ⟨_, rfl⟩
  have hcl : cs.length = 73 := by rw [hcs]; exact hcells_len _ _ _ hl htl
  rw [← hcs] at hr1
  have H2 : Hid (∀ w2, w2 = w1.setCells c 0 cs → Has w2 c xs ∧ Below w.heap.size w w2) := by
    intro w2 hw2
    refine ⟨⟨st, tl, ?_, hl, htl, hta, hst, htt⟩, by rw [hw2]; exact Lib.below_setCells _ (by omega) _ _ B1⟩
    rw [hw2]
    refine hsh_of hl htl ?_ (World.there_setCells ht1 _ _ _)
    rw [← hcs]; exact World.rangeAt_setCells_same w1 c 0 cs (by rw [hcl]; exact ht1)
  have HR : Hid (w1.rangeAt b 0 cs ∧ w1.there c 0 73 ∧ cs.length = 73 ∧ (∀ v ∈ cs, v.oneCell' = true)) := ⟨hr1, ht1, hcl, by rw [hcs]; exact hcells_one _ _ _⟩
  have HW1 : Hid (w1 = w.alloc (.cells (hcells z8 z64 0).toArray 62)) := hw1
  have HC : Hid (c = w.heap.size) := hc
  have HXA : Hid (AllB xs) := ha
  have HPA : Hid (AllB (padl xs.length)) := padl_all _
  have HPL : Hid (0 < (padl xs.length).length ∧ (padl xs.length).length ≤ 73) := by
    show _ ∧ _
    rw [padl_len]; unfold zn; omega
  obtain ⟨n, hnx⟩ : ∃ n, n = xs.length := ⟨_, rfl⟩
  have HNX : Hid (n = xs.length) := hnx
  have n1 : (n : Int) ≤ 1000000 := by omega
  clear h1 hl htl hta hst htt hw1 hc hcs hcl hr1 ht1 ha hn hlt HA1 hnx
  go_enter Try.func35, Try.ntmps35
  go_wp2_with (first
    | (refine hnew_law _ rfl rfl ?_; intro wx hwx; rw [← HW1.out] at hwx; subst hwx; rw [← HC.out])
    | (refine wpList_load_mid rfl 62 (.tmp 7) rfl b 0 rfl cs _ HR.out.1 Try.underlying62 rfl (by rw [i_hash, HR.out.2.2.1]) ?_)
    | (refine hstore_law _ rfl (.tmp 3) (.tmp 8) rfl c cs rfl rfl HR.out.2.1 HR.out.2.2.1 HR.out.2.2.2 ?_; intro w2 hw2; obtain ⟨HH2, B2⟩ := H2.out w2 hw2; clear hw2; have c72 : w2.cell? ⟨c, 72, none⟩ = some (.int .i64 n) := by { obtain ⟨_, _, hq, _⟩ := HH2; have := hq.size; rwa [← HNX.out] at this })
    | (go_at_call_of 42 (Value.int .i64 (n : Int)); refine (padding_any n _ (by omega)).mono ?_; rintro e w3 ⟨v3, rfl, hv3, ⟨g3, hg3, ar3, hv3e⟩, hb3⟩; rw [HNX.out] at ar3 hv3e; have HV3 : Hid (v3 = .slice (some ⟨g3, 0, none⟩) (padl xs.length).length (padl xs.length).length) := hv3e; clear hv3e hv3; have AR3 : Hid (Ar w3 g3 0 .u8 (padl xs.length)) := ar3; clear ar3; have HG3 : Hid (g3 ≠ c) := by { have := HH2.lt; show _ ≠ _; omega })
    | (go_at_call 33; refine (write_any w3 c xs (padl xs.length) v3 (HH2.below hb3 HH2.lt) HXA.out (by rw [HV3.out]; exact AR3.out.kept HPA.out HPL.out.1 (by have := HPL.out.2; omega) HG3.out) (by have := HPL.out.2; have := HNX.out; omega)).mono ?_; rintro e w4 ⟨rfl, HH4, BU4⟩; obtain ⟨st4, tl4, k1, k2, k3, k4, k5, k6⟩ := HH4; have HS4 : Hid (Ar w4 c 0 .u32 st4 ∧ st4.length = 8 ∧ st4 = upto (xs ++ padl xs.length) ((xs.length + (padl xs.length).length) / 64)) := ⟨k1.1, k2, by { have hp := HPL.out.1; rw [List.length_append] at k5; rw [← k5]; unfold hw; rw [if_neg (by omega)] }⟩; clear k1 k2 k3 k4 k5 k6)
    | (refine load_law _ rfl (.tmp 13) 60 rfl .u32 st4 _ _ rfl HS4.out.1 8 59 Try.underlying60 i_arr8 HS4.out.2.1 ?_)
    | (go_at_call 43; refine (wordsToBytes_any st4 _ (by rw [HS4.out.2.2]; exact upto_all _ _) HS4.out.2.1).mono ?_; rintro e w5 ⟨v5, rfl, hv5, ⟨g5, hg5, hg5l, ar5⟩, hb5⟩)
    | fail)
  go_ret
  have e : sumOf xs = catw st4 8 := by unfold sumOf; rw [HS4.out.2.2]
  have b3 : Below w.heap.size w w3 := B2.trans (hb3.mono B2.size)
  have b4 : Below w.heap.size w w4 := b3.trans (BU4.below (by have := HC.out; omega) b3.size)
  rw [e]
  subst hg5
  exact ⟨_, rfl, hv5, ⟨g5, rfl, Nat.le_trans b4.size hg5l, ar5⟩, b4.trans (hb5.mono b4.size)⟩

set_option maxRecDepth 100000 in
set_option maxHeartbeats 2000000 in
theorem hsum_nil (w : World) :
    Calls Try.prog 35 #[.pointer none] w fun e w' => ∃ v, e = .returned v ∧ Byt w' v (sumOf []) ∧ (∃ g, v = .slice (some ⟨g, 0, none⟩) 32 32 ∧ w.heap.size ≤ g ∧ Ar w' g 0 .u8 (sumOf [])) ∧ Below w.heap.size w w' := by
  obtain ⟨w1, hw1⟩ : ∃ w1, w1 = w.alloc (.cells (hcells z8 z64 0).toArray 62) := ⟨_, rfl⟩
  obtain ⟨c, hc⟩ : ∃ c, c = w.heap.size := ⟨_, rfl⟩
  have B2 : Below w.heap.size w w1 := by rw [hw1]; exact (Below.refl _ _).alloc (Nat.le_refl _) _
  have HH2 : Has w1 c [] := by rw [hw1, hc]; exact Has.new w
  have HW1 : Hid (w1 = w.alloc (.cells (hcells z8 z64 0).toArray 62)) := hw1
  have HC : Hid (c = w.heap.size) := hc
  have HXA : Hid (AllB []) := allB_mem (by simp)
  have HPA : Hid (AllB (padl 0)) := padl_all _
  have HPL : Hid (0 < (padl 0).length ∧ (padl 0).length ≤ 73) := by
    show _ ∧ _
    rw [padl_len]; unfold zn; omega
  have c72 : w1.cell? ⟨c, 72, none⟩ = some (.int .i64 0) := by
    obtain ⟨_, _, hq, _⟩ := HH2
    exact hq.size
  clear hw1 hc
  go_enter Try.func35, Try.ntmps35
  go_wp2_with (first
    | (refine hnew_law _ rfl rfl ?_; intro wx hwx; rw [← HW1.out] at hwx; subst hwx; rw [← HC.out])
    | (go_at_call 42; refine (padding_any 0 _ (by omega)).mono ?_; rintro e w3 ⟨v3, rfl, hv3, ⟨g3, hg3, ar3, hv3e⟩, hb3⟩; have HV3 : Hid (v3 = .slice (some ⟨g3, 0, none⟩) (padl 0).length (padl 0).length) := hv3e; clear hv3e hv3; have AR3 : Hid (Ar w3 g3 0 .u8 (padl 0)) := ar3; clear ar3; have HG3 : Hid (g3 ≠ c) := by { have := HH2.lt; show _ ≠ _; omega })
    | (go_at_call 33; refine (write_any w3 c [] (padl 0) v3 (HH2.below hb3 HH2.lt) HXA.out (by rw [HV3.out]; exact AR3.out.kept HPA.out HPL.out.1 (by have := HPL.out.2; omega) HG3.out) (by have := HPL.out.2; simp; omega)).mono ?_; rintro e w4 ⟨rfl, HH4, BU4⟩; obtain ⟨st4, tl4, k1, k2, k3, k4, k5, k6⟩ := HH4; have HS4 : Hid (Ar w4 c 0 .u32 st4 ∧ st4.length = 8 ∧ st4 = upto ([] ++ padl 0) ((0 + (padl 0).length) / 64)) := ⟨k1.1, k2, by { have hp := HPL.out.1; rw [List.length_append, List.length_nil] at k5; rw [← k5]; unfold hw; rw [if_neg (by omega)] }⟩; clear k1 k2 k3 k4 k5 k6)
    | (refine load_law _ rfl (.tmp 13) 60 rfl .u32 st4 _ _ rfl HS4.out.1 8 59 Try.underlying60 i_arr8 HS4.out.2.1 ?_)
    | (go_at_call 43; refine (wordsToBytes_any st4 _ (by rw [HS4.out.2.2]; exact upto_all _ _) HS4.out.2.1).mono ?_; rintro e w5 ⟨v5, rfl, hv5, ⟨g5, hg5, hg5l, ar5⟩, hb5⟩)
    | fail)
  go_ret
  have e : sumOf [] = catw st4 8 := by unfold sumOf; rw [HS4.out.2.2]; rfl
  have b3 : Below w.heap.size w w3 := B2.trans (hb3.mono B2.size)
  have b4 : Below w.heap.size w w4 := b3.trans (BU4.below (by have := HC.out; omega) b3.size)
  rw [e]
  subst hg5
  exact ⟨_, rfl, hv5, ⟨g5, rfl, Nat.le_trans b4.size hg5l, ar5⟩, b4.trans (hb5.mono b4.size)⟩
end Go.Proofs.Ytaplllonomdgeaa
