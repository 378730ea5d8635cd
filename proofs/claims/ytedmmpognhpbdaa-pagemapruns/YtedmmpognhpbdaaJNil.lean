/- What a nil map of pages answers. No claim of its own. -/
import Derived.Test.YtedmmpognhpbdaaJOpn
namespace Go.Proofs.Ytedmmpognhpbdaa.pm
open Go.RowKit Go.Proofs.Ytedmmpognhpbdaa.he
set_option maxRecDepth 20000

theorem pq_nil (w : World) : Pq w (.pointer none) (fun _ => 0) (fun _ => 0) (fun _ _ => sp0) (fun _ => 0) := .inl ⟨rfl, fun _ => rfl, fun _ => rfl⟩
theorem nodrop (v : Value) (d s : Nat → Nat) (f : Nat → Nat → Sp) (g : PL → Int) (n : Int) (w : World) (hm : Pq w v s d f g) (hn : szn s n = 0) : Calls Try.prog 22 #[v, .int .i64 n] w fun e w' => e = .returned (.tuple #[.slice none 0 0, .int .i64 2]) ∧ w' = w := by
  obtain ⟨a, z, e, hz⟩ := sec_form d s n
  have SS : Hid (Calls Try.prog 48 #[v, .int .i64 n] w fun e w' => e = .returned (.slice a 0 0) ∧ w' = w) := by
    have q := sectors_any v d s f g n w hm
    rw [e, hz, hn] at q
    exact q
  clear hm e hz hn
  go_enter Try.func22, Try.ntmps22
  go_wp2_with (go_at_call 48; refine SS.out.mono ?_; rintro e w3 ⟨rfl, hw⟩; obtain rfl := hw.symm)
  go_ret2
  exact ⟨rfl, rfl⟩
theorem move_nil (p q : PL) (h : Hd) (w : World) : Calls Try.prog 24 #[.pointer none, .agg (pc p).toArray, .agg (pc q).toArray, .agg h.cs.toArray] w fun e w' => e = .returned (.int .i64 2) ∧ Below w.heap.size w w' := by
  have t0 : (0 : Nat) = 0 := rfl
  go_enter Try.func24, Try.ntmps24
  go_wp2_with (first
    | (have qq := t2; refine box_lawC _ h.cs rfl ?_; intro w3 X9 B9 l9; have BB : Hid (Below w.heap.size w w3) := BB.out.trans (B9.mono BB.out.size); clear X9 B9 l9 t2)
    | (have qq := t1; refine box_lawC _ (pc q) rfl ?_; intro w2 X9 B9 l9; have BB : Hid (Below w.heap.size w w2) := BB.out.trans (B9.mono BB.out.size); clear X9 B9 l9 t1; have t2 : (0 : Nat) = 0 := rfl)
    | (have qq := t0; refine box_lawC _ (pc p) rfl ?_; intro w1 X9 B9 l9; have BB : Hid (Below w.heap.size w w1) := B9; clear X9 B9 l9 t0; have t1 : (0 : Nat) = 0 := rfl))
  go_ret
  exact ⟨rfl, BB.out⟩
theorem in_nil (n : Int) (w : World) : Calls Try.prog 15 #[.pointer none, .int .i64 n] w fun e w' => e = .returned (.slice none 0 0) ∧ Below w.heap.size w w' := by
  have t0 : (0 : Nat) = 0 := rfl
  go_enter Try.func15, Try.ntmps15
  go_wp2_with (have qq := t0; refine box_law1 _ (.int .i64 n) rfl rfl ?_; intro w1 X9 B9 l9; have BB : Hid (Below w.heap.size w w1) := B9; clear X9 B9 l9 t0)
  go_ret
  exact ⟨rfl, BB.out⟩
theorem data_none (v : Value) (d s : Nat → Nat) (f : Nat → Nat → Sp) (g : PL → Int) (n : Int) (w : World) (hm : Pq w v s d f g) (hn : szn s n = 0) : Calls Try.prog 25 #[v, .int .i64 n] w fun e w' => e = .returned (.int .i64 0) ∧ w' = w := by
  obtain ⟨a, z, e, hz⟩ := sec_form d s n
  have SS : Hid (Calls Try.prog 48 #[v, .int .i64 n] w fun e w' => e = .returned (.slice a 0 0) ∧ w' = w) := by
    have q := sectors_any v d s f g n w hm
    rw [e, hz, hn] at q
    exact q
  clear hm e hz hn
  go_enter Try.func25, Try.ntmps25
  go_wp2_with (go_at_call 48; refine SS.out.mono ?_; rintro e w3 ⟨rfl, hw⟩; obtain rfl := hw.symm)
  refine wp_loop_rounds 1 ?_
  rw [rounds_succ]
  go_wp2
  go_ret
  exact ⟨rfl, rfl⟩
theorem cells19 {w : World} {b : Nat} {x : Stp} (h : w.rangeAt b 0 x.cs) : w.cell? ⟨b, 0, none⟩ = some (.int .i64 x.k) ∧ w.cell? ⟨b, 1, none⟩ = some (.int .i64 x.n) ∧ w.cell? ⟨b, 2, none⟩ = some (.int .i64 x.z) ∧ w.cell? ⟨b, 3, none⟩ = some (.int .i64 x.s.p.1) ∧ w.cell? ⟨b, 4, none⟩ = some (.int .i64 x.s.p.2) ∧ w.cell? ⟨b, 5, none⟩ = some (.int .i64 x.s.h.k) ∧ w.cell? ⟨b, 6, none⟩ = some (.int .i64 x.s.h.n) ∧ w.cell? ⟨b, 7, none⟩ = some (.int .i64 x.s.h.c) ∧ w.cell? ⟨b, 8, none⟩ = some (.int .u32 x.s.h.l) ∧ w.cell? ⟨b, 9, none⟩ = some (.int .u64 x.s.h.e) ∧ w.cell? ⟨b, 10, none⟩ = some (.int .u64 x.s.h.t) ∧ w.cell? ⟨b, 11, none⟩ = some (.int .i64 x.s.o.k) ∧ w.cell? ⟨b, 12, none⟩ = some (.int .i64 x.s.o.n) ∧ w.cell? ⟨b, 13, none⟩ = some (.int .i64 x.s.o.c) ∧ w.cell? ⟨b, 14, none⟩ = some (.int .u32 x.s.o.l) ∧ w.cell? ⟨b, 15, none⟩ = some (.int .u64 x.s.o.e) ∧ w.cell? ⟨b, 16, none⟩ = some (.int .u64 x.s.o.t) ∧ w.cell? ⟨b, 17, none⟩ = some (.int .i64 x.t.1) ∧ w.cell? ⟨b, 18, none⟩ = some (.int .i64 x.t.2) := by
  have : ∀ j v, x.cs[j]? = some v → w.cell? ⟨b, j, none⟩ = some v := fun j v hv => by simpa using h j v hv
  exact ⟨this 0 _ rfl, this 1 _ rfl, this 2 _ rfl, this 3 _ rfl, this 4 _ rfl, this 5 _ rfl, this 6 _ rfl, this 7 _ rfl, this 8 _ rfl, this 9 _ rfl, this 10 _ rfl, this 11 _ rfl, this 12 _ rfl, this 13 _ rfl, this 14 _ rfl, this 15 _ rfl, this 16 _ rfl, this 17 _ rfl, this 18 _ rfl⟩
end Go.Proofs.Ytedmmpognhpbdaa.pm
