/- What fault's Fail answers. No claim of its own. -/
import Derived.Test.YtnklbmeadjgehaaULast
import Derived.Test.YtnklbmeadjgehaaUSet
namespace Go.Proofs.Ytnklbmeadjgehaa.fa
open Go.RowKit
set_option maxRecDepth 20000

/-- what is done of byte i, where the last bit z of byte p is left out -/
def dn (m : List Int) (p z i : Nat) : Int := if i = p then (((mb m i).toNat &&& (255 - z) : Nat) : Int) else mb m i
theorem dn_bd {m : List Int} (h : AllB m) (p z i : Nat) : 0 ≤ dn m p z i ∧ dn m p z i ≤ 255 := by
  have hb := mb_bd h i
  unfold dn
  split
  · have : (mb m i).toNat &&& (255 - z) ≤ (mb m i).toNat := Nat.and_le_left
    omega
  · exact hb
/-- the variables that the closure of Fail is over -/
def Dn (w : World) (cp cs cl c p z : Nat) (m : List Int) : Prop := w.cell? ⟨cp, 0, none⟩ = some (.int .i64 p) ∧ w.cell? ⟨cs, 0, none⟩ = some (.func (.func 95) #[] #[.pointer (some ⟨c, 0, none⟩)]) ∧ w.cell? ⟨cl, 0, none⟩ = some (.int .u8 z) ∧ Say w c m
theorem Dn.below {w w' : World} {cp cs cl c p z : Nat} {m : List Int} (h : Dn w cp cs cl c p z m) (hb : Below w.heap.size w w') : Dn w' cp cs cl c p z m :=
  ⟨by rw [hb.cell (World.block_lt_of_cell? w _ h.1)]; exact h.1, by rw [hb.cell (World.block_lt_of_cell? w _ h.2.1)]; exact h.2.1, by rw [hb.cell (World.block_lt_of_cell? w _ h.2.2.1)]; exact h.2.2.1, h.2.2.2.below hb⟩

set_option maxHeartbeats 2000000 in
theorem done_any (cp cs cl c p z : Nat) (m : List Int) (i : Nat) (w : World) (h : Dn w cp cs cl c p z m) (hm : AllB m) (hz : z < 256) (hi : i ≤ 9223372036854775807) :
    Calls Try.prog 92 #[.int .i64 i, .pointer (some ⟨cp, 0, none⟩), .pointer (some ⟨cs, 0, none⟩), .pointer (some ⟨cl, 0, none⟩)] w fun e w' => e = .returned (.int .u8 (dn m p z i)) ∧ ∃ n, w' = w.drewN n := by
  obtain ⟨h1, h2, h3, h4⟩ := h
  have S : Hid (∀ n, Calls Try.prog 95 #[.int .i64 i, .pointer (some ⟨c, 0, none⟩)] (w.drewN n) fun e w' => e = .returned (.int .u8 (mb m i)) ∧ ∃ m, w' = (w.drewN n).drewN m) := fun n => said_any c m i (w.drewN n) h4 hi
  have S0 : Hid (Calls Try.prog 95 #[.int .i64 i, .pointer (some ⟨c, 0, none⟩)] w fun e w' => e = .returned (.int .u8 (mb m i)) ∧ ∃ m, w' = w.drewN m) := said_any c m i w h4 hi
  have hb := mb_bd hm i
  unfold dn
  generalize mb m i = x at *
  clear h4 hm
  by_cases e : i = p
  · rw [if_pos e]
    subst e
    have e2 : bits .andNot .u8 x (z : Int) = ((x.toNat &&& (255 - z) : Nat) : Int) := by
      have := u8_andNot x z hb.1 (by omega) (by omega) (by omega)
      rwa [Int.toNat_natCast] at this
    clear hb
    generalize ((x.toNat &&& (255 - z) : Nat) : Int) = y at *
    go_enter Try.func92, Try.ntmps92
    go_wp2
    go_quiet ((go_at_call 95; exact Calls.quiet_of (S.out _)))
    go_wp2
    go_ret
    exact ⟨rfl, _, rfl⟩
  · rw [if_neg e]
    have e2 : ((i : Int) == (p : Int)) = false := by simpa using (show (i : Int) ≠ (p : Int) by omega)
    go_enter Try.func92, Try.ntmps92
    go_wp2_with (go_at_call 95; refine S0.out.mono ?_; rintro e w1 ⟨rfl, n, hw⟩; obtain rfl := hw.symm)
    go_ret
    exact ⟨rfl, _, rfl⟩

theorem done_tells {w : World} {cp cs cl c p z : Nat} {m : List Int} (h : Dn w cp cs cl c p z m) (hm : AllB m) (hz : z < 256) (n : Nat) (hn : n ≤ 9223372036854775807) :
    Tells w (.func (.func 92) #[] #[.pointer (some ⟨cp, 0, none⟩), .pointer (some ⟨cs, 0, none⟩), .pointer (some ⟨cl, 0, none⟩)]) (dn m p z) n :=
  ⟨92, #[.pointer (some ⟨cp, 0, none⟩), .pointer (some ⟨cs, 0, none⟩), .pointer (some ⟨cl, 0, none⟩)], rfl, fun _ _ => rfl, dn_bd hm p z, fun _ hb i hi => done_any cp cs cl c p z m i _ (h.below hb) hm hz (by omega)⟩

theorem isL_lt {xs ys : List Int} {p z : Nat} (h : IsL xs ys p z) : z < 256 ∧ p ≤ xs.length := by
  rcases h with ⟨rfl, rfl, _⟩ | ⟨t, ht, hp, rfl, _⟩
  · omega
  · have : 2 ^ t ≤ 128 := Nat.pow_le_pow_right (by omega) (show t ≤ 7 by omega)
    omega

theorem dn_laid (w0 : World) (c p z nn : Nat) (m : List Int) (h : Say w0 c m) : Dn ((((w0.alloc (.cells #[.func (.func 95) #[] #[.pointer (some ⟨c, 0, none⟩)]] 133)).drewN nn).alloc (.cells #[.int .i64 p] 3)).alloc (.cells #[.int .u8 z] 5)) (w0.heap.size + 1) w0.heap.size (w0.heap.size + 1 + 1) c p z m ∧
    Below w0.heap.size w0 ((((w0.alloc (.cells #[.func (.func 95) #[] #[.pointer (some ⟨c, 0, none⟩)]] 133)).drewN nn).alloc (.cells #[.int .i64 p] 3)).alloc (.cells #[.int .u8 z] 5)) := by
  have V1 := Var.new w0 (.func (.func 95) #[] #[.pointer (some ⟨c, 0, none⟩)]) 133
  have B1 : Below w0.heap.size w0 (w0.alloc (.cells #[.func (.func 95) #[] #[.pointer (some ⟨c, 0, none⟩)]] 133)) := (Below.refl _ _).alloc (Nat.le_refl _) _
  have z1 : (w0.alloc (.cells #[.func (.func 95) #[] #[.pointer (some ⟨c, 0, none⟩)]] 133)).heap.size = w0.heap.size + 1 := by simp
  generalize w0.alloc (.cells #[.func (.func 95) #[] #[.pointer (some ⟨c, 0, none⟩)]] 133) = w1 at *
  have V2 : Var (w1.drewN nn) w0.heap.size _ := V1
  have B2 := below_drawn B1 nn
  have z2 : (w1.drewN nn).heap.size = w0.heap.size + 1 := z1
  generalize w1.drewN nn = w2 at *
  have V3 := Var.new w2 (.int .i64 p) 3
  have B3 : Below w2.heap.size w2 (w2.alloc (.cells #[.int .i64 p] 3)) := (Below.refl _ _).alloc (Nat.le_refl _) _
  have z3 : (w2.alloc (.cells #[.int .i64 p] 3)).heap.size = w2.heap.size + 1 := by simp
  generalize w2.alloc (.cells #[.int .i64 p] 3) = w3 at *
  have V4 := Var.new w3 (.int .u8 z) 5
  have B4 : Below w3.heap.size w3 (w3.alloc (.cells #[.int .u8 z] 5)) := (Below.refl _ _).alloc (Nat.le_refl _) _
  generalize w3.alloc (.cells #[.int .u8 z] 5) = w4 at *
  rw [z3, z2] at V4
  have BB : Below w0.heap.size w0 w4 := (B2.trans (B3.mono (by omega))).trans (B4.mono (by omega))
  rw [z2] at V3
  exact ⟨⟨(V3.below B4 (by omega)).1, ((V2.below B3 (by omega)).below B4 (by omega)).1, V4.1, h.below BB⟩, BB⟩

set_option maxHeartbeats 2000000 in
theorem fail_any (va vb vm : Value) (xs ys m : List Int) (w : World) (ha : Byt w va xs) (hb : Byt w vb ys) (hm : Byt w vm m) (hl : xs.length = ys.length) (hmax : xs.length ≤ 1048576) :
    Calls Try.prog 76 #[va, vb, vm] w fun e w' => ∃ v p z, e = .returned (.tuple #[v, .int .i64 0]) ∧ IsL xs ys p z ∧ Byt w' v (pgl xs ys (dn m p z)) ∧ Below w.heap.size w w' := by
  have SB : Hid (Calls Try.prog 90 #[vm] w fun e w' => e = .returned (.func (.func 95) #[] #[.pointer (some ⟨w.heap.size, 0, none⟩)]) ∧ Say w' w.heap.size m ∧ Below w.heap.size w w') := bitsOf_any vm m w hm
  have SL : Hid (∀ w1, Below w.heap.size w w1 → Calls Try.prog 91 #[va, vb] w1 fun e w' => ∃ p z : Nat, e = .returned (.tuple #[.int .i64 p, .int .u8 z]) ∧ IsL xs ys p z ∧ ∃ n, w' = w1.drewN n) := fun w1 h => last_any va vb xs ys w1 (ha.below h) (hb.below h) hl
  have SP : Hid (∀ w1 cp cs cl c p z, Dn w1 cp cs cl c p z m → z < 256 → Below w.heap.size w w1 → Calls Try.prog 93 #[va, vb, .func (.func 92) #[] #[.pointer (some ⟨cp, 0, none⟩), .pointer (some ⟨cs, 0, none⟩), .pointer (some ⟨cl, 0, none⟩)]] w1 fun e w' => ∃ v, e = .returned v ∧ Byt w' v (pgl xs ys (dn m p z)) ∧ Below w1.heap.size w1 w') := fun w1 cp cs cl c p z h1 h2 h3 => prog_any va vb _ xs ys (dn m p z) w1 (ha.below h3) (hb.below h3) hl hmax (done_tells h1 hm.all h2 _ (by omega))
  obtain ⟨ao, ca, rfl, ha1, ha2, -⟩ := ha
  obtain ⟨bo, cb, rfl, hb1, hb2, -⟩ := hb
  rw [← hl] at hb1 SP SL ⊢
  clear hl hm
  have hmf := makeFn
  have hst := fun (w : World) (a : Addr) (fn : Fn) (x y : Array Value) => run_store Try.prog w a (.func fn x y) .plain rfl
  go_enter Try.func76, Try.ntmps76
  go_wp2_with (first
    | (have q3 := PZ; go_at_call 93; refine (SP.out _ _ _ _ w.heap.size p z (dn_laid w0 w.heap.size p z nn m Y0.out).1 (isL_lt PZ).1 (B0.trans ((dn_laid w0 w.heap.size p z nn m Y0.out).2.mono B0.size))).mono ?_; rintro e w2 ⟨v2, rfl, y2, B2⟩; have Y2 : Hid (Byt w2 v2 (pgl xs ys (dn m p z))) := y2; clear y2)
    | (have q2 := B0; go_at_call 91; refine (SL.out _ (B0.alloc (by have := B0.size; omega) _)).mono ?_; rintro e w1 ⟨p, z, rfl, PZ, nn, hw⟩; obtain rfl := hw.symm)
    | (go_at_call 90; refine SB.out.mono ?_; rintro e w0 ⟨rfl, y0, B0⟩; have Y0 : Hid (Say w0 w.heap.size m) := y0; clear y0))
  go_ret2
  have D := dn_laid w0 w.heap.size p z nn m Y0.out
  exact ⟨_, p, z, rfl, PZ, Y2.out, B0.trans ((D.2.mono B0.size).trans (B2.mono (Nat.le_trans B0.size D.2.size)))⟩

set_option maxHeartbeats 2000000 in
theorem fail_no (va vb vm : Value) (xs ys : List Int) (w : World) (ha : Byt w va xs) (hb : Byt w vb ys) (hl : xs.length ≠ ys.length) :
    Calls Try.prog 76 #[va, vb, vm] w fun e w' => e = .returned (.tuple #[.slice none 0 0, .int .i64 2]) ∧ w' = w := by
  obtain ⟨ao, ca, rfl, ha1, ha2, -⟩ := ha
  obtain ⟨bo, cb, rfl, hb1, hb2, -⟩ := hb
  have h2 : ((xs.length : Int) != (ys.length : Int)) = true := by simp; omega
  go_enter Try.func76, Try.ntmps76
  go_wp2
  go_ret2
  exact ⟨rfl, rfl⟩
end Go.Proofs.Ytnklbmeadjgehaa.fa
