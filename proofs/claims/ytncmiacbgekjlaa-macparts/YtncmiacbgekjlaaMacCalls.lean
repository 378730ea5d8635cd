/- What mac's Tag and Fits answer, and a key's Fits. No claim of its own. -/
import Derived.Test.YtncmiacbgekjlaaMacTag
namespace Go.Proofs.Ytncmiacbgekjlaa
open Go.RowKit

theorem cell_new (w : World) (x : Value) (t : TypeId) : (w.alloc (.cells #[x] t)).cell? ⟨w.heap.size, 0, none⟩ = some x := by
  rw [cell_of_row (w.alloc (.cells #[x] t)) w.heap.size 0 _ t (0, 0) (heap_alloc_last w _)]
  rfl
/-- a slice of one slice of bytes -/
theorem bts_one {w : World} {u : Value} {ts : List Int} (h : Byt w u ts) (hl : ts.length ≤ 1000000) : Bts (w.alloc (.cells #[u] 22)) (.slice (some ⟨w.heap.size, 0, none⟩) 1 1) [ts] := by
  have hb : Below w.heap.size w (w.alloc (.cells #[u] 22)) := (Below.refl _ _).alloc (Nat.le_refl _) _
  refine ⟨_, _, rfl, by simp, by simp, fun _ => ⟨w.heap.size, 0, rfl, fun r hr => ?_⟩, fun r => ?_⟩
  · have : r = 0 := by simp at hr; exact hr
    subst this
    exact ⟨u, cell_new w u 22, h.below hb⟩
  · match r with
    | 0 => simp [List.getD]; omega
    | r + 1 => simp [List.getD]

section
variable {ops : Array Oper} {rest : List Oper} {o : Oper} {a : Act} {Q : Exit → Act → World → Prop}
/-- '[][]byte{u}', the world gets a name -/
theorem one_law (w : World) (hg : o.guard = none) (x : Operand) (hop : o.op = Op.buildSlice 31 1 #[(0, x)]) (uo : Option Addr) (n uc : Nat) (ts : List Int) (hx : a.eval x = .slice uo n uc) (h : Byt w (.slice uo n uc) ts) (hl : ts.length ≤ 1000000)
    (hK : ∀ w', Bts w' (.slice (some ⟨w.heap.size, 0, none⟩) 1 1) [ts] → Below w.heap.size w w' → wpList Try.prog ops Q rest (a.put o.dst (.slice (some ⟨w.heap.size, 0, none⟩) 1 1)) w') : wpList Try.prog ops Q (o :: rest) a w := by
  refine wpList_plain hg fun K hK' => ?_
  have hrun : (Instr.buildSlice 31 1 #[(0, .slice uo n uc)]).run Try.prog w = .ok (.slice (some ⟨w.heap.size, 0, none⟩) 1 1) (w.alloc (.cells #[.slice uo n uc] 22)) := by kernel_rfl
  unfold Oper.wp execOp
  simp only [hop, List.map_toArray, List.map_cons, List.map_nil, hx, Sem.run_bind, Sem.run_pure, Result.andThen_ok, hrun]
  exact hK' _ _ (hK _ (bts_one h hl) ((Below.refl _ _).alloc (Nat.le_refl _) _))
end

theorem blk_key {w : World} {c : Nat} {xs : List Int} (h : Ar w c 0 .u8 (blk xs)) (ha : AllB xs) : KeyV w (.pointer (some ⟨c, 0, none⟩)) (blk xs) := Or.inr ⟨c, rfl, h, blk_len xs, blk_all xs ha⟩

set_option maxHeartbeats 2000000 in
theorem mtag_any (w : World) (v u : Value) (xs ts : List Int) (h : Byt w v xs) (hu : Byt w u ts) (hn : xs.length ≤ 1000000) (hm : ts.length ≤ 100000) :
    Calls Try.prog 9 #[v, u] w fun e w' => ∃ v', e = .returned v' ∧ Byt w' v' (tagB (blk xs) ts) ∧ Below w.heap.size w w' := by
  have HV : Hid (Byt w v xs) := h
  have HU : Hid (Byt w u ts) := hu
  have HXA : Hid (AllB xs) := h.all
  have HM : Hid (ts.length ≤ 100000) := hm
  have HMN : Hid (∀ w0, Byt w0 v xs → Calls Try.prog 14 #[v] w0 fun e w' => ∃ c, e = .returned (.pointer (some ⟨c, 0, none⟩)) ∧ KeyV w' (.pointer (some ⟨c, 0, none⟩)) (blk xs) ∧ Below w0.heap.size w0 w') := fun w0 h => (mnew_any w0 v xs h hn).mono fun _ _ ⟨c, he, _, hA, hb⟩ => ⟨c, he, blk_key hA HXA.out, hb⟩
  have HKT : Hid (∀ w0 kv v, KeyV w0 kv (blk xs) → Bts w0 v [ts] → Calls Try.prog 16 #[kv, v] w0 fun e w' => ∃ v', e = .returned v' ∧ Byt w' v' (tagB (blk xs) ts) ∧ Below w0.heap.size w0 w') := fun w0 kv v h1 h2 => by
    have e : [ts].flatten = ts := by simp
    have := ktag_any w0 kv (blk xs) v [ts] h1 h2 (by rw [e]; exact hm)
    rwa [e] at this
  generalize tagB (blk xs) ts = T at *
  generalize blk xs = bx at *
  obtain ⟨uo, uc, rfl, u1, u2, -, -, -⟩ := hu
  obtain ⟨n, hnx⟩ : ∃ n, n = ts.length := ⟨_, rfl⟩
  rw [← hnx] at u1 HU ⊢
  clear h hn hm hnx
  go_enter Try.func9, Try.ntmps9
  go_wp2_with (first
    | (go_at_call 14; refine (HMN.out _ HV.out).mono ?_; rintro e w1 ⟨c, rfl, hk1, b1⟩; have HK1 : Hid (KeyV w1 (.pointer (some ⟨c, 0, none⟩)) bx) := hk1; have HU1 : Hid (Byt w1 (.slice uo n uc) ts) := HU.out.below b1; have s1 := b1.size; clear hk1)
    | (refine one_law _ rfl (.tmp 7) rfl uo n uc ts rfl HU1.out (by have := HM.out; omega) ?_; intro w2 hB2 b2; have HB2 : Hid (Bts w2 (.slice (some ⟨w1.heap.size, 0, none⟩) 1 1) [ts]) := hB2; have HK2 : Hid (KeyV w2 (.pointer (some ⟨c, 0, none⟩)) bx) := HK1.out.below b2; have c2 : Below w.heap.size w w2 := b1.trans (b2.mono s1); clear hB2)
    | (go_at_call 16; refine (HKT.out _ _ _ HK2.out HB2.out).mono ?_; rintro e w3 ⟨v3, rfl, hv3, b3⟩; have HV3 : Hid (Byt w3 v3 T) := hv3; clear hv3))
  go_ret
  exact ⟨_, rfl, HV3.out, c2.trans (b3.mono c2.size)⟩

set_option maxHeartbeats 2000000 in
theorem kfits_any (w : World) (kv : Value) (bl : List Int) (tv : Value) (gs : List Int) (v : Value) (ls : List (List Int)) (hk : KeyV w kv bl) (ht : Byt w tv gs) (hb : Bts w v ls) (hm : ls.flatten.length ≤ 100000) :
    Calls Try.prog 15 #[kv, tv, v] w fun e w' => e = .returned (.bool (decide (gs = tagB bl ls.flatten))) ∧ Below w.heap.size w w' := by
  have HT : Hid (Byt w tv gs) := ht
  have HKT : Hid (Calls Try.prog 16 #[kv, v] w fun e w' => ∃ v', e = .returned v' ∧ Byt w' v' (tagB bl ls.flatten) ∧ Below w.heap.size w w') := ktag_any w kv bl v ls hk hb hm
  generalize tagB bl ls.flatten = T at *
  clear hk hb ht hm
  go_enter Try.func15, Try.ntmps15
  go_wp2_with (first
    | (go_at_call 16; refine HKT.out.mono ?_; rintro e w1 ⟨v1, rfl, hv1, b1⟩; have HV1 : Hid (Byt w1 v1 T) := hv1; have HT1 : Hid (Byt w1 tv gs) := HT.out.below b1; clear hv1)
    | (go_at_call 21; refine (oSame_any _ _ gs T _ HT1.out HV1.out).mono ?_; rintro e w2 ⟨rfl, n2, rfl⟩))
  go_ret
  exact ⟨rfl, below_drewN b1 n2⟩

set_option maxHeartbeats 2000000 in
theorem mfits_any (w : World) (v u tv : Value) (xs ts gs : List Int) (h : Byt w v xs) (hu : Byt w u ts) (ht : Byt w tv gs) (hn : xs.length ≤ 1000000) (hm : ts.length ≤ 100000) :
    Calls Try.prog 13 #[v, u, tv] w fun e w' => e = .returned (.bool (decide (gs = tagB (blk xs) ts))) ∧ Below w.heap.size w w' := by
  have HV : Hid (Byt w v xs) := h
  have HU : Hid (Byt w u ts) := hu
  have HT : Hid (Byt w tv gs) := ht
  have HXA : Hid (AllB xs) := h.all
  have HM : Hid (ts.length ≤ 100000) := hm
  have HMN : Hid (∀ w0, Byt w0 v xs → Calls Try.prog 14 #[v] w0 fun e w' => ∃ c, e = .returned (.pointer (some ⟨c, 0, none⟩)) ∧ KeyV w' (.pointer (some ⟨c, 0, none⟩)) (blk xs) ∧ Below w0.heap.size w0 w') := fun w0 h => (mnew_any w0 v xs h hn).mono fun _ _ ⟨c, he, _, hA, hb⟩ => ⟨c, he, blk_key hA HXA.out, hb⟩
  have HKF : Hid (∀ w0 kv v, KeyV w0 kv (blk xs) → Byt w0 tv gs → Bts w0 v [ts] → Calls Try.prog 15 #[kv, tv, v] w0 fun e w' => e = .returned (.bool (decide (gs = tagB (blk xs) ts))) ∧ Below w0.heap.size w0 w') := fun w0 kv v h1 h3 h2 => by
    have e : [ts].flatten = ts := by simp
    have := kfits_any w0 kv (blk xs) tv gs v [ts] h1 h3 h2 (by rw [e]; exact hm)
    rwa [e] at this
  generalize decide (gs = tagB (blk xs) ts) = T at *
  generalize blk xs = bx at *
  obtain ⟨uo, uc, rfl, u1, u2, -, -, -⟩ := hu
  obtain ⟨n, hnx⟩ : ∃ n, n = ts.length := ⟨_, rfl⟩
  rw [← hnx] at u1 HU ⊢
  clear h hn hm hnx ht
  go_enter Try.func13, Try.ntmps13
  go_wp2_with (first
    | (go_at_call 14; refine (HMN.out _ HV.out).mono ?_; rintro e w1 ⟨c, rfl, hk1, b1⟩; have HK1 : Hid (KeyV w1 (.pointer (some ⟨c, 0, none⟩)) bx) := hk1; have HU1 : Hid (Byt w1 (.slice uo n uc) ts) := HU.out.below b1; have s1 := b1.size; clear hk1)
    | (refine one_law _ rfl (.tmp 10) rfl uo n uc ts rfl HU1.out (by have := HM.out; omega) ?_; intro w2 hB2 b2; have HB2 : Hid (Bts w2 (.slice (some ⟨w1.heap.size, 0, none⟩) 1 1) [ts]) := hB2; have HK2 : Hid (KeyV w2 (.pointer (some ⟨c, 0, none⟩)) bx) := HK1.out.below b2; have c2 : Below w.heap.size w w2 := b1.trans (b2.mono s1); have HT2 : Hid (Byt w2 tv gs) := HT.out.below c2; clear hB2)
    | (go_at_call 15; refine (HKF.out _ _ _ HK2.out HT2.out HB2.out).mono ?_; rintro e w3 ⟨rfl, b3⟩))
  go_ret
  exact ⟨rfl, c2.trans (b3.mono c2.size)⟩
end Go.Proofs.Ytncmiacbgekjlaa
