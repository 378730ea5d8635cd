/- Does the program answer at all? No claim of its own. -/
import Derived.Test.YtedmmpognhpbdaaJAdd
namespace Go.Proofs.Ytedmmpognhpbdaa.pm
open Go.RowKit Go.Proofs.Ytedmmpognhpbdaa.he
set_option maxRecDepth 20000

/-- the spot that awake puts -/
def xa : Sp := ⟨(0, 0), ⟨1, 1, 1, 3, 0, 0⟩, h0⟩
def sa : Nat → Nat := up (fun _ => 0) 1 5
def fa : Nat → Nat → Sp := up (fun _ _ => sp0) 1 (fun _ => sp0)
def fb : Nat → Nat → Sp := up fa 1 (ft (fa 1) xa 3 1)
theorem sa_le (j : Nat) : sa j ≤ 65535 := by
  unfold sa up
  by_cases h : j = 1 <;> simp [h]
theorem cnt_none (f : Nat → Nat → Sp) : cnt (fun _ => 0) f = fun _ => 0 := by
  funext p
  simp [cnt, cn1]
theorem cnt_a : cnt sa fa = fun _ => 0 := by
  unfold sa fa
  rw [cnt_add (fun _ => 0) (fun _ _ => sp0) (by omega) rfl, cnt_none]
theorem gs_a : gs sa fb 1 3 = xa := by
  unfold gs
  rw [if_pos (by unfold szn sa up; simp)]
  unfold fb
  rw [show (1 : Int).toNat = 1 from rfl, up_eq, show (3 : Int).toNat = 3 from rfl]
  unfold ft
  rw [if_pos (by omega)]
  rfl
set_option maxHeartbeats 4000000 in
theorem awake_any (w : World) : Calls Try.prog 14 #[] w fun e w' => e = .returned (.bool true) ∧ Below w.heap.size w w' := by
  have t0 : (0 : Nat) = 0 := rfl
  go_enter Try.func14, Try.ntmps14
  go_wp2_with (first
    | (have qq := t6; go_at_call 23; refine (SZ.out _ BE.out).mono ?_; rintro e w7 ⟨rfl, hw⟩; obtain rfl := hw.symm; clear t6)
    | (have qq := t5; (with_reducible refine at_store ?_); refine store_lawC _ xa.cs w4.heap.size 0 rfl rfl VZ.out.2 size_spot xa.one ?_; intro w6 _ _ _ B6; have BE : Hid (Below w3.heap.size w3 w6) := (by have z := BG.out.trans (B5.out.mono BG.out.size); exact z.trans (B6.mono (BG.out.size))); clear B6 t5; have t6 : (0 : Nat) = 0 := rfl)
    | (have qq := t4; (with_reducible refine at_alloc ?_); refine new_lawC _ sp0.cs zero_spot ?_; intro w5 X5 b5 l5; have VZ : Hid (Vr w5 w4.heap.size sp0.cs) := X5; have B5 : Hid (Below w4.heap.size w4 w5) := b5; clear X5 b5 l5 t4; have t5 : (0 : Nat) = 0 := rfl)
    | (have qq := t3; go_at_call 21; refine (GT.out).mono ?_; rintro e w4 ⟨rfl, b4⟩; have BG : Hid (Below w3.heap.size w3 w4) := b4; clear b4 t3; have t4 : (0 : Nat) = 0 := rfl)
    | (have qq := t2; go_at_call 20; refine (put_loop c b (up (fun _ => 0) 1 D) sa fa xa _ (by rw [cnt_a]; exact P2.out) 1 3 1 rfl (by omega) rfl rfl (fun j _ => sa_le j) rfl (by omega) (by show 3 + 1 ≤ 5; omega)).mono ?_; rintro e w3 ⟨v, R, rfl, _, _, p3, c3⟩; have P3 : Hid (Pm w3 c (up (fun _ => 0) 1 D) sa fb (some b) (cnt sa fb)) := p3; have C3 : Hid (Below w.heap.size w w3) := C2.out.trans (c3.below C2.out.size (fun k hk => by have := DB.out; rcases hk with hk | hk; (rw [show up (fun _ => 0) 1 D 1 = D from rfl] at hk; omega); omega)); have GT : Hid (Calls Try.prog 21 #[pt c, .int .i64 1, .int .i64 3] w3 fun e w' => e = .returned (.tuple #[.agg xa.cs.toArray, .bool true]) ∧ Below w3.heap.size w3 w') := (by have z := get_any c (some b) (up (fun _ => 0) 1 D) sa fb (cnt sa fb) 1 3 w3 p3; rw [gs_a] at z; exact z); have SZ : Hid (∀ W, Below w3.heap.size w3 W → Calls Try.prog 23 #[pt c, .int .i64 1] W fun e w' => e = .returned (.int .i64 5) ∧ w' = W) := (fun W hW => size_any (pt c) (up (fun _ => 0) 1 D) sa fb (cnt sa fb) 1 W (.inr ⟨c, some b, rfl, p3.below hW⟩)); clear p3 c3 t2; have t3 : (0 : Nat) = 0 := rfl)
    | (have qq := t1; go_at_call 19; refine (add_yes c 1 5 none _ _ _ _ _ P1.out (by omega) (by omega) (by omega) rfl).mono ?_; rintro e w2 ⟨D, b, rfl, p2, c2, hD, hb⟩; have P2 : Hid (Pm w2 c (up (fun _ => 0) 1 D) sa fa (some b) (fun _ => 0)) := p2; have C2 : Hid (Below w.heap.size w w2) := B1.out.trans (c2.below B1.out.size (fun k hk => by have := HC.out; omega)); have DB : Hid (w.heap.size ≤ D ∧ w.heap.size ≤ b) := ⟨by have := B1.out.size; omega, by rcases hb with h | h; cases h; have := B1.out.size; omega⟩; clear p2 c2 hD hb t1; have t2 : (0 : Nat) = 0 := rfl)
    | (have qq := t0; go_at_call 8; refine (new_any _).mono ?_; rintro e w1 ⟨c, rfl, p1, hc, b1⟩; have P1 : Hid (Pm w1 c (fun _ => 0) (fun _ => 0) (fun _ _ => sp0) none (fun _ => 0)) := p1; have HC : Hid (w.heap.size ≤ c) := hc; have B1 : Hid (Below w.heap.size w w1) := b1; clear p1 hc b1 t0; have t1 : (0 : Nat) = 0 := rfl))
  go_ret
  exact ⟨rfl, C3.out.trans (BE.out.mono C3.out.size)⟩
end Go.Proofs.Ytedmmpognhpbdaa.pm
