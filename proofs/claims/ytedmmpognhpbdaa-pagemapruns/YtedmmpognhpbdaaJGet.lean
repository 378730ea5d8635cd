/- What pagemap's Get, Data and Put answer where they find nothing; Get of a sector. No claim of its own. -/
import Derived.Test.YtedmmpognhpbdaaJPut
namespace Go.Proofs.Ytedmmpognhpbdaa.pm
open Go.RowKit Go.Proofs.Ytedmmpognhpbdaa.he
set_option maxRecDepth 20000

theorem put_no (v : Value) (d s : Nat → Nat) (f : Nat → Nat → Sp) (g : PL → Int) (x : Sp) (w : World) (hm : Pq w v s d f g) (ho : Hok x.h) (hz : ∀ j, j < 4 → s j ≤ 65535) (hr : ¬ Rgt s x.h) : Calls Try.prog 20 #[v, .agg x.cs.toArray] w fun e w' => e = .returned (.tuple #[.slice none 0 0, .int .i64 2]) ∧ Below w.heap.size w w' := by
  have hz' : szn s x.h.n ≤ 65535 := by
    unfold szn
    split
    · exact hz _ (by omega)
    · omega
  have SP : Hid (∀ W, Below w.heap.size w W → Calls Try.prog 44 #[v, .agg x.h.cs.toArray] W fun e w' => e = .returned (.slice none 0 0) ∧ Below W.heap.size W w') := fun W hW => by
    cases hk : lk x.h.k with
    | false => exact spo_no1 v d s f g x.h W (hm.below hW) hk
    | true =>
      by_cases h1 : x.h.c < 1
      · exact spo_no2 v d s f g x.h W (hm.below hW) hk h1
      · by_cases h2 : x.h.c > szn s x.h.n
        · exact spo_no3 v d s f g x.h W (hm.below hW) hk h1 h2
        · by_cases h3 : x.h.l > szn s x.h.n - x.h.c
          · exact spo_no4 v d s f g x.h W (hm.below hW) hk h1 h2 ho hz' h3
          · exact absurd ⟨hk, by omega, by omega, by omega⟩ hr
  clear hm hr hz hz' ho
  have t0 : (0 : Nat) = 0 := rfl
  go_enter Try.func20, Try.ntmps20
  go_wp2_with (first
    | (have qq := t2; go_at_call 44; refine (SP.out _ BB.out).mono ?_; rintro e w2 ⟨rfl, B2⟩; have BB : Hid (Below w.heap.size w w2) := BB.out.trans (B2.mono BB.out.size); clear B2 t2)
    | (have qq := t1; refine load_law _ rfl 35 (.tmp 11) rfl w.heap.size 2 x.h.cs rfl rowy_hd (by have := head_at HX.out.1; rwa [Nat.zero_add] at this) ?_; clear t1; have t2 : (0 : Nat) = 0 := rfl)
    | (have qq := t0; refine box_lawC _ x.cs rfl ?_; intro w1 X1 B1 l1; have HX : Hid (Vr w1 w.heap.size x.cs) := X1; have BB : Hid (Below w.heap.size w w1) := B1; clear X1 B1 l1 t0; have t1 : (0 : Nat) = 0 := rfl))
  go_ret2
  exact ⟨rfl, BB.out⟩
theorem zero_sp : (Try.prog.info? 37).map (fun i => (i.zero, i.size)) = some (some (.agg sp0.cs.toArray), 14) := by kernel_rfl
/-- a sector's spot as Get tells it -/
def gs (s : Nat → Nat) (f : Nat → Nat → Sp) (n k : Int) : Sp := if 0 ≤ k ∧ k < szn s n then f n.toNat k.toNat else sp0
theorem build_sp : ∀ w : World, (Instr.build 37 #[]).run Try.prog w = .ok (.agg sp0.cs.toArray) w := fun w => by kernel_rfl
theorem get_no (v : Value) (d s : Nat → Nat) (f : Nat → Nat → Sp) (g : PL → Int) (n k : Int) (w : World) (hm : Pq w v s d f g) (hk : ¬ (0 ≤ k ∧ k < szn s n)) : Calls Try.prog 21 #[v, .int .i64 n, .int .i64 k] w fun e w' => e = .returned (.tuple #[.agg sp0.cs.toArray, .bool false]) ∧ Below w.heap.size w w' := by
  obtain ⟨a, z, e, hn⟩ := sec_form d s n
  have SS : Hid (∀ W, Below w.heap.size w W → Calls Try.prog 48 #[v, .int .i64 n] W fun e w' => e = .returned (.slice a z z) ∧ w' = W) := fun W hW => by rw [← e]; exact sectors_any v d s f g n W (hm.below hW)
  rw [← hn] at hk
  clear hm e hn
  have t0 : (0 : Nat) = 0 := rfl
  by_cases h0 : k < 0
  · go_enter Try.func21, Try.ntmps21
    go_wp2_with (first
      | (have qq := t2; (with_reducible refine at_store ?_); refine store_lawC _ sp0.cs w.heap.size 0 rfl rfl HX.out.2 size_spot sp0.one ?_; intro w3 _ r3 h3 B3; have HR : Hid (w3.rangeAt w.heap.size 0 sp0.cs) := r3; have BB : Hid (Below w.heap.size w w3) := BB.out.trans B3; clear r3 h3 B3 t2)
      | (have qq := t1; go_at_call 48; refine (SS.out _ BB.out).mono ?_; rintro e w2 ⟨rfl, hw⟩; obtain rfl := hw.symm; have bs := build_sp; clear t1; have t2 : (0 : Nat) = 0 := rfl)
      | (have qq := t0; (with_reducible refine at_alloc ?_); refine new_lawC _ sp0.cs zero_spot ?_; intro w1 X1 B1 l1; have HX : Hid (Vr w1 w.heap.size sp0.cs) := X1; have BB : Hid (Below w.heap.size w w1) := B1; clear X1 B1 l1 t0; have t1 : (0 : Nat) = 0 := rfl))
    refine bodyPost_ret (v := .tuple #[.agg sp0.cs.toArray, .bool false]) (results_cv rfl _ _ w.heap.size sp0.cs _ rowy_spot rfl rfl HR.out) rfl ⟨rfl, BB.out⟩
  · have h1 : ¬ k < (z : Int) := by omega
    have h2 : decide (k ≥ (z : Int)) = true := decide_eq_true (by omega)
    have h3 : k ≥ (z : Int) := by omega
    go_enter Try.func21, Try.ntmps21
    go_wp2_with (first
      | (have qq := t2; (with_reducible refine at_store ?_); refine store_lawC _ sp0.cs w.heap.size 0 rfl rfl HX.out.2 size_spot sp0.one ?_; intro w3 _ r3 h3 B3; have HR : Hid (w3.rangeAt w.heap.size 0 sp0.cs) := r3; have BB : Hid (Below w.heap.size w w3) := BB.out.trans B3; clear r3 h3 B3 t2)
      | (have qq := t1; go_at_call 48; refine (SS.out _ BB.out).mono ?_; rintro e w2 ⟨rfl, hw⟩; obtain rfl := hw.symm; have bs := build_sp; clear t1; have t2 : (0 : Nat) = 0 := rfl)
      | (have qq := t0; (with_reducible refine at_alloc ?_); refine new_lawC _ sp0.cs zero_spot ?_; intro w1 X1 B1 l1; have HX : Hid (Vr w1 w.heap.size sp0.cs) := X1; have BB : Hid (Below w.heap.size w w1) := B1; clear X1 B1 l1 t0; have t1 : (0 : Nat) = 0 := rfl))
    refine bodyPost_ret (v := .tuple #[.agg sp0.cs.toArray, .bool false]) (results_cv rfl _ _ w.heap.size sp0.cs _ rowy_spot rfl rfl HR.out) rfl ⟨rfl, BB.out⟩
end Go.Proofs.Ytedmmpognhpbdaa.pm
