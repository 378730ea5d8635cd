/- What ledger's New, sum, isNamespace, At and change answer. No claim of its own. -/
import Derived.Test.YtnmofigidlmcaaaEAsk
namespace Go.Proofs.Ytnmofigidlmcaaa.le
open Go.RowKit Go.Proofs.Ytnmofigidlmcaaa.he
set_option maxRecDepth 20000

section
variable {ops : Array Oper} {rest : List Oper} {o : Oper} {a : Act} {Q : Exit → Act → World → Prop}
/-- 'make([]Block, n)' -/
theorem make_lawE (w : World) (hg : o.guard = none) (l c : Operand) (hop : o.op = Op.makeSlice 58 l c)
    (L : Int) (n : Nat) (hl : a.eval l = .int .i64 L) (hc : a.eval c = .int .i64 L) (hL : L = (n : Int)) (hn : n ≤ 64)
    (hK : ∀ w', Rws w' w.heap.size n (fun _ => b0) → Below w.heap.size w w' → w.heap.size < w'.heap.size → wpList Try.prog ops Q rest (a.put o.dst (.slice (some ⟨w.heap.size, 0, none⟩) n n)) w') :
    wpList Try.prog ops Q (o :: rest) a w := by
  obtain ⟨i0, hi, hz0, hz1, hz2⟩ := info_parts (show (Try.prog.info? 39).map (fun i => (i.zero, i.size, i.bytes)) = some (some (.agg b0.cs.toArray), 9, 40) by kernel_rfl)
  refine wpList_make_full w hg l c 58 hop w.heap.size 39 i0 (.agg b0.cs.toArray) 9 Try.underlying58 hi hz0 hz1 .i64 .i64 L L n hl hc hL hL (by rw [hz2]; omega) (by simp only [maxLen]; omega) (Nat.le_refl _) fun w' h1 h2 => ?_
  have hlt : w.heap.size < w'.heap.size := (h1.lt w.heap.size rfl).2
  have hcell : ∀ i j, i < n → j < 9 → ∀ v, b0.cs[j]? = some v → w'.cell? ⟨w.heap.size, i * 9 + j, none⟩ = some v := fun i j hi hj v hv => by
    rw [h1.cellAt (i * 9 + j) (by omega)]
    have hm : (i * 9 + j) % 9 = j := by omega
    have hs : (Value.agg b0.cs.toArray).cells.size = 9 := rfl
    rw [Array.getElem?_toList]
    unfold madeCells
    rw [Array.getElem?_map, Array.getElem?_range, if_pos (by omega)]
    simp only [Option.map_some, hs, hm]
    show some (b0.cs.toArray[j]!) = some v
    rw [← hv]
    have : j = 0 ∨ j = 1 ∨ j = 2 ∨ j = 3 ∨ j = 4 ∨ j = 5 ∨ j = 6 ∨ j = 7 ∨ j = 8 := by omega
    rcases this with rfl | rfl | rfl | rfl | rfl | rfl | rfl | rfl | rfl <;> rfl
  refine hK w' (fun i hi => ⟨fun j v hv => ?_, fun j hj => ⟨?_, h1.frozenAt _⟩⟩) ((Below.refl _ w).grown h2 (Nat.le_refl _) (fun k hk => by cases hk)) hlt
  · exact hcell i j hi (List.getElem?_eq_some_iff.1 hv).1 v hv
  · rw [hcell i j hi hj _ (List.getElem?_eq_getElem hj)]; rfl
end

theorem new_no (n : Int) (w : World) (h : n < 0 ∨ 64 < n) : Calls Try.prog 6 #[.int .i64 n] w fun e w' => e = .returned (.tuple #[.pointer none, .int .i64 2]) ∧ w' = w := by
  rcases h with h | h
  · go_enter Try.func6, Try.ntmps6
    go_wp2
    go_ret2
    exact ⟨rfl, rfl⟩
  · have h0 : ¬ n < 0 := by omega
    go_enter Try.func6, Try.ntmps6
    go_wp2
    go_ret2
    exact ⟨rfl, rfl⟩

/-- k of n blocks of a new ledger are laid -/
def nk (k : Nat) : Nat → Bk := fun i => if i < k then bn else b0
theorem nk_up (k : Nat) : up (nk k) k bn = nk (k + 1) := by
  funext i
  unfold up nk
  by_cases h : i = k
  · subst h; simp
  · by_cases h2 : i < k
    · rw [if_neg h, if_pos h2, if_pos (by omega)]
    · rw [if_neg h, if_neg h2, if_neg (by omega)]

set_option maxHeartbeats 2000000 in
theorem new_yes (n : Nat) (w : World) (hn : n ≤ 64) : Calls Try.prog 6 #[.int .i64 n] w fun e w' => ∃ c d, e = .returned (.tuple #[pt c, .int .i64 0]) ∧ Led w' c d n (fun _ => bn) ∧ w.heap.size ≤ c ∧ w.heap.size ≤ d ∧ d < w'.heap.size ∧ Below w.heap.size w w' := by
  have n0 : ¬ (n : Int) < 0 := by omega
  have n1 : ¬ (n : Int) > 64 := by omega
  have t0 : (0 : Nat) = 0 := rfl
  go_enter Try.func6, Try.ntmps6
  go_wp2_with (first
    | (have qq := t1; refine box_lawC _ [.slice (some ⟨w.heap.size, 0, none⟩) n n] rfl ?_; intro w2 X2 B2 l2; have V2 : Hid (Vr w2 w1.heap.size [.slice (some ⟨w.heap.size, 0, none⟩) n n]) := X2; have HR : Hid (Rws w2 w.heap.size n (nk 0)) := HR1.out.below B2; have c2 := X2.cell 0 _ rfl; clear X2 t1)
    | (have qq := t0; refine make_lawE _ rfl (.tmp 12) (.tmp 12) rfl n n rfl rfl rfl hn ?_; intro w1 R1 B1 l1; have HR1 : Hid (Rws w1 w.heap.size n (nk 0)) := R1; clear R1 t0; have t1 : (0 : Nat) = 0 := rfl))
  go_loopw [21] (fun i wr => ∃ k : Nat, k ≤ n ∧ i = .int .i64 k ∧ Vr wr w1.heap.size [.slice (some ⟨w.heap.size, 0, none⟩) n n] ∧ Rws wr w.heap.size n (nk k) ∧ Below w.heap.size w wr ∧ w2.heap.size ≤ wr.heap.size) (fun i _ => n - (intOf i).toNat)
  case atStart => exact ⟨0, Nat.zero_le _, rfl, V2.out, HR.out, B1.trans (B2.mono (by omega)), Nat.le_refl _⟩
  case round =>
    clear c2 HR V2
    obtain ⟨k, hk, rfl, v2, hr, hb, hs⟩ := hrel
    have HB : Hid (Below w.heap.size w wr) := hb
    have V2 : Hid (Vr wr w1.heap.size [.slice (some ⟨w.heap.size, 0, none⟩) n n]) := v2
    have HR : Hid (Rws wr w.heap.size n (nk k)) := hr
    have c2 := v2.cell 0 _ rfl
    have k0 : (0 : Int) ≤ (k : Int) := by omega
    clear hb v2 hr
    by_cases hlt : k < n
    · have k1 : (k : Int) < (n : Int) := by omega
      have HA : Hid (At wr w.heap.size (k * 9) b0.cs) := by have := HR.out k hlt; rwa [show nk k k = b0 by simp [nk]] at this
      have nn := nine HA.out.1
      have fz := HA.out.free 0 (by decide)
      rw [Nat.add_zero] at fz
      go_wp2
      go_roundw
      case rel =>
        refine ⟨k + 1, by omega, by go_num, V2.out.other _ (by show w1.heap.size ≠ w.heap.size; omega), ?_, HB.out.setCell (p := ⟨w.heap.size, k * 9, none⟩) (Nat.le_refl _) _, by rw [World.size_setCell]; exact hs⟩
        rw [← nk_up]
        exact HR.out.put k bn (HA.out.set 0 (by decide) _) ((Wrt.refl _ _ _).set 0 (by omega) _)
      case measure => simp [intOf]; omega
    · have e : k = n := by omega
      subst e
      go_wp2
      go_ret2
      refine ⟨_, _, rfl, ⟨V2.out, fun i hi => ?_, by omega⟩, by omega, Nat.le_refl _, by omega, HB.out⟩
      have := HR.out i hi
      rwa [show nk k i = bn by simp [nk, hi]] at this

theorem sum_any (a b : Int) (w : World) (ha : 0 ≤ a) (ha' : a ≤ 1000000000) (hb : -9223372036854775808 ≤ b) (hb' : b ≤ 1000000) : Calls Try.prog 56 #[.int .i64 a, .int .i64 b] w fun e w' => e = .returned (.int .i64 (a + b)) ∧ w' = w := by
  have e3 : IntKind.i64.wrap (a + b) = a + b := by rw [IntKind.wrap_i64]; omega
  by_cases h1 : 0 < b
  · have e1 : IntKind.i64.wrap (9223372036854775807 - b) = 9223372036854775807 - b := by rw [IntKind.wrap_i64]; omega
    have g1 : b > 0 := h1
    have g2 : ¬ a > 9223372036854775807 - b := by omega
    have g3 : ¬ b < 0 := by omega
    go_enter Try.func56, Try.ntmps56
    go_wp2
    go_ret
    exact ⟨rfl, rfl⟩
  · have g1 : ¬ b > 0 := h1
    by_cases h2 : b < 0
    · have e1 : IntKind.i64.wrap (-9223372036854775808 - b) = -9223372036854775808 - b := by rw [IntKind.wrap_i64]; omega
      have g2 : ¬ a < -9223372036854775808 - b := by omega
      go_enter Try.func56, Try.ntmps56
      go_wp2
      go_ret
      exact ⟨rfl, rfl⟩
    · go_enter Try.func56, Try.ntmps56
      go_wp2
      go_ret
      exact ⟨rfl, rfl⟩

theorem ns_any (s : Int) (w : World) (q : Bool) (hq : q = decide (0 ≤ s ∧ s < 4)) : Calls Try.prog 57 #[.int .i64 s] w fun e w' => e = .returned (.bool q) ∧ w' = w := by
  by_cases h0 : 0 ≤ s
  · by_cases h1 : s < 4
    · have e : q = true := by rw [hq]; exact decide_eq_true ⟨h0, h1⟩
      subst e
      clear hq
      go_enter Try.func57, Try.ntmps57
      go_wp2
      go_ret
      exact ⟨rfl, rfl⟩
    · have e : q = false := by rw [hq]; exact decide_eq_false (by omega)
      subst e
      clear hq
      go_enter Try.func57, Try.ntmps57
      go_wp2
      go_ret
      exact ⟨rfl, rfl⟩
  · have e : q = false := by rw [hq]; exact decide_eq_false (by omega)
    subst e
    clear hq
    go_enter Try.func57, Try.ntmps57
    go_wp2
    go_ret
    exact ⟨rfl, rfl⟩

theorem change_no (v : Value) (n : Nat) (f : Nat → Bk) (w : World) (b : Int) (g : Value) (h : Lq w v n f) (hb : ¬ (0 ≤ b ∧ b < n)) : Calls Try.prog 53 #[v, .int .i64 b, g] w fun e w' => e = .returned (.int .i64 2) ∧ w' = w := by
  have S : Hid (Calls Try.prog 39 #[v, .int .i64 b] w fun e w' => e = .returned (.bool false) ∧ w' = w) := has_any v n f w b h false (decide_eq_false hb).symm
  clear h hb
  go_enter Try.func53, Try.ntmps53
  go_wp2_with (go_at_call 39; refine S.out.mono ?_; rintro e w' ⟨rfl, hw⟩; obtain rfl := hw.symm)
  go_ret
  exact ⟨rfl, rfl⟩
theorem change_yes (c d n k : Nat) (f : Nat → Bk) (w : World) (h : Led w c d n f) (hk : k < n) (y : Bk) (K : FuncId) (p : Array Value) (h1 : ∀ (q : Array Value) (w : World), (callFunc K q).run Try.prog w = .ok (.enter K q) w)
    (hm : Calls Try.prog K (#[.pointer (some ⟨d, k * 9, none⟩)] ++ p) w fun e w' => e = .returned (.tuple #[]) ∧ At w' d (k * 9) y.cs ∧ Wrt d (k * 9) w w') :
    Calls Try.prog 53 #[pt c, .int .i64 k, .func (.func K) #[] p] w fun e w' => e = .returned (.int .i64 0) ∧ Led w' c d n (up f k y) ∧ w.grownBy w' (some d) := by
  have S : Hid (Calls Try.prog 39 #[pt c, .int .i64 k] w fun e w' => e = .returned (.bool true) ∧ w' = w) := has_any (pt c) n f w k (.inr ⟨c, d, rfl, h⟩) true (decide_eq_true (by omega)).symm
  have HM : Hid (Calls Try.prog K (#[.pointer (some ⟨d, k * 9, none⟩)] ++ p) w fun e w' => e = .returned (.tuple #[]) ∧ At w' d (k * 9) y.cs ∧ Wrt d (k * 9) w w') := hm
  have HL : Hid (Led w c d n f) := h
  have c0 := h.cell
  have k0 : (0 : Int) ≤ (k : Int) := by omega
  have k1 : (k : Int) < (n : Int) := by omega
  clear h hm
  have t0 : (0 : Nat) = 0 := rfl
  go_enter Try.func53, Try.ntmps53
  go_wp2_with (first
    | (have qq := t1; refine HM.out.mono ?_; rintro e w2 ⟨rfl, A2, W2⟩; clear t1)
    | (have qq := t0; go_at_call 39; refine S.out.mono ?_; rintro e w' ⟨rfl, hw⟩; obtain rfl := hw.symm; clear t0; have t1 : (0 : Nat) = 0 := rfl))
  go_ret
  exact ⟨rfl, HL.out.put k y A2 W2, W2.1⟩
end Go.Proofs.Ytnmofigidlmcaaa.le
