/- What pagemap's New, sectors, Size, Refs and leave answer. No claim of its own. -/
import Derived.Test.YtedmmpognhpbdaaJNew
import Derived.Deep.DeepCutAuto
import Derived.BigQuiet
namespace Go.Proofs.Ytedmmpognhpbdaa.pm
open Go.RowKit Go.Proofs.Ytedmmpognhpbdaa.he
set_option maxRecDepth 20000

theorem below_dr {B : Nat} {w w' : World} (h : Below B w w') (n : Nat) : Below B w (w'.drewN n) := ⟨h.os, h.tape, h.output, h.size, h.block⟩
theorem mixed : Try.prog.follows .mixedOrders = true := by kernel_rfl
theorem new_any (w : World) : Calls Try.prog 8 #[] w fun e w' => ∃ c, e = .returned (pt c) ∧ Pm w' c (fun _ => 0) (fun _ => 0) (fun _ _ => sp0) none (fun _ => 0) ∧ w.heap.size ≤ c ∧ Below w.heap.size w w' := by
  go_enter Try.func8, Try.ntmps8
  go_wp2_with (refine box_lawC _ (mc (fun _ => 0) (fun _ => 0) none) rfl ?_; intro w1 X1 B1 l1; have VX : Hid (Vr w1 w.heap.size (mc (fun _ => 0) (fun _ => 0) none)) := X1; have BB : Hid (Below w.heap.size w w1) := B1; clear B1 X1)
  go_ret
  refine ⟨_, rfl, ⟨VX.out, fun i hi k hk => by omega, by simp, fun _ => ⟨fun _ => rfl, fun _ _ => rfl⟩, fun _ _ h => by omega, fun _ _ _ _ _ h => by omega⟩, Nat.le_refl _, BB.out⟩
/-- a namespace's sectors -/
def sec (d s : Nat → Nat) (ns : Int) : Value := if 0 ≤ ns ∧ ns < 4 then sv (d ns.toNat) (s ns.toNat) else .slice none 0 0
def szn (s : Nat → Nat) (ns : Int) : Nat := if 0 ≤ ns ∧ ns < 4 then s ns.toNat else 0
theorem Pm.seq {w : World} {c : Nat} {d s : Nat → Nat} {f : Nat → Nat → Sp} {rb : Option Nat} {g : Int × Int → Int} (h : Pm w c d s f rb g) (k : Nat) (hk : k < 4) : w.cell? ⟨c, k, none⟩ = some (sv (d k) (s k)) := by
  rcases four hk with rfl | rfl | rfl | rfl
  · exact h.v.cell 0 _ rfl
  · exact h.v.cell 1 _ rfl
  · exact h.v.cell 2 _ rfl
  · exact h.v.cell 3 _ rfl
theorem sectors_any (v : Value) (d s : Nat → Nat) (f : Nat → Nat → Sp) (g : Int × Int → Int) (ns : Int) (w : World) (h : Pq w v s d f g) : Calls Try.prog 48 #[v, .int .i64 ns] w fun e w' => e = .returned (sec d s ns) ∧ w' = w := by
  have S : Hid (∀ W q, q = decide (0 ≤ ns ∧ ns < 4) → Calls Try.prog 43 #[.int .i64 ns] W fun e w' => e = .returned (.bool q) ∧ w' = W) := fun W q hq => isns_any ns W q hq
  rcases h with ⟨rfl, hs, _⟩ | ⟨c, rb, rfl, h⟩
  · have e : sec d s ns = .slice none 0 0 := by
      unfold sec sv
      split
      · rw [if_pos (hs _)]
      · rfl
    rw [e]
    go_enter Try.func48, Try.ntmps48
    go_wp2
    go_ret
    exact ⟨rfl, rfl⟩
  · by_cases hn : 0 ≤ ns ∧ ns < 4
    · obtain ⟨k, rfl⟩ : ∃ k : Nat, ns = k := ⟨ns.toNat, by omega⟩
      have hk : k < 4 := by omega
      have e : sec d s (k : Int) = sv (d k) (s k) := by unfold sec; rw [if_pos hn, Int.toNat_natCast]
      rw [e]
      have S1 : Hid (∀ W, Calls Try.prog 43 #[.int .i64 (k : Int)] W fun e w' => e = .returned (.bool true) ∧ w' = W) := fun W => S.out W true (decide_eq_true hn).symm
      have c0 := h.seq k hk
      have k0 : (0 : Int) ≤ (k : Int) := by omega
      have k1 : (k : Int) < 4 := by omega
      generalize sv (d k) (s k) = q at c0 ⊢
      clear h hn S e
      go_enter Try.func48, Try.ntmps48
      go_wp2_with (go_at_call 43; refine (S1.out _).mono ?_; rintro e w3 ⟨rfl, hw⟩; obtain rfl := hw.symm)
      go_ret
      exact ⟨rfl, rfl⟩
    · have e : sec d s ns = .slice none 0 0 := by unfold sec; rw [if_neg hn]
      rw [e]
      have S1 : Hid (∀ W, Calls Try.prog 43 #[.int .i64 ns] W fun e w' => e = .returned (.bool false) ∧ w' = W) := fun W => S.out W false (decide_eq_false hn).symm
      clear h hn S e
      go_enter Try.func48, Try.ntmps48
      go_wp2_with (go_at_call 43; refine (S1.out _).mono ?_; rintro e w3 ⟨rfl, hw⟩; obtain rfl := hw.symm)
      go_ret
      exact ⟨rfl, rfl⟩
theorem sec_form (d s : Nat → Nat) (ns : Int) : ∃ a n, sec d s ns = .slice a n n ∧ n = szn s ns := by
  unfold sec szn sv
  split
  · split
    · rename_i h; exact ⟨_, _, rfl, h.symm⟩
    · exact ⟨_, _, rfl, rfl⟩
  · exact ⟨_, _, rfl, rfl⟩
theorem size_any (v : Value) (d s : Nat → Nat) (f : Nat → Nat → Sp) (g : Int × Int → Int) (ns : Int) (w : World) (h : Pq w v s d f g) : Calls Try.prog 23 #[v, .int .i64 ns] w fun e w' => e = .returned (.int .i64 (szn s ns)) ∧ w' = w := by
  have S : Hid (Calls Try.prog 48 #[v, .int .i64 ns] w fun e w' => e = .returned (sec d s ns) ∧ w' = w) := sectors_any v d s f g ns w h
  clear h
  obtain ⟨a, n, e, hn⟩ := sec_form d s ns
  rw [e] at S
  rw [← hn]
  clear e hn
  go_enter Try.func23, Try.ntmps23
  go_wp2_with (go_at_call 48; refine S.out.mono ?_; rintro e w3 ⟨rfl, hw⟩; obtain rfl := hw.symm)
  go_ret
  exact ⟨rfl, rfl⟩
theorem refs_any (v : Value) (d s : Nat → Nat) (f : Nat → Nat → Sp) (g : Int × Int → Int) (p : Int × Int) (w : World) (h : Pq w v s d f g) : Calls Try.prog 11 #[v, .agg (pc p).toArray] w fun e w' => e = .returned (.int .i64 (g p)) ∧ Below w.heap.size w w' := by
  rcases h with ⟨rfl, _, hg⟩ | ⟨c, rb, rfl, h⟩
  · rw [hg p]
    have t0 : (0 : Nat) = 0 := rfl
    go_enter Try.func11, Try.ntmps11
    go_wp2_with (first
      | (have qq := t0; refine box_lawC _ (pc p) rfl ?_; intro w1 X1 B1 l1; have BB : Hid (Below w.heap.size w w1) := B1; clear B1 X1 t0))
    go_ret
    exact ⟨rfl, BB.out⟩
  · have hl : Hid (∀ W, Below w.heap.size w W → ∀ n, (Instr.lookup 69 (.map rb) (.agg #[.int .i64 p.1, .int .i64 p.2]) false).run Try.prog (W.drewN n) = .ok (.int .i64 (g p)) (W.drewN n)) := by
      intro W hW n
      cases e : rb with
      | none => rw [(h.z e).1 p]; exact look_nil _ p
      | some b => exact look_any (((h.m b e).heap (hW.block b (h.m b e).lt)).heap (w' := W.drewN n) rfl) p
    have c0 := h.v.cell 4 _ rfl
    have hc := h.lt
    clear h
    have t0 : (0 : Nat) = 0 := rfl
    go_enter Try.func11, Try.ntmps11
    go_wp2_with (first
      | (have qq := t0; refine box_lawC _ (pc p) rfl ?_; intro w1 X1 B1 l1; have hl := hl.out w1 B1; have c0 := (by rw [B1.cell hc]; exact c0 : w1.cell? ⟨c, 4, none⟩ = some (.map rb)); have p0 := X1.cell 0 _ rfl; have p1 := X1.cell 1 _ rfl; have BB : Hid (Below w.heap.size w w1) := B1; clear B1 X1 t0))
    go_quiet (fail)
    go_wp2
    go_ret
    exact ⟨rfl, below_dr BB.out _⟩
end Go.Proofs.Ytedmmpognhpbdaa.pm
