/- Texts put together (a claim holds few files). No claim of its own. -/
import Derived.Test.YtbkaecjkgjkheaaDoorPackG
import Derived.Test.YtbkaecjkgjkheaaDoorPackB
import Derived.Test.YtbkaecjkgjkheaaDoorPackD
/- The reference's product of two rows of bits: that it is the product. No claim of its own. -/
namespace Go.Proofs.YtbkaecjkgjkheaaDoor
open Go.RowKit
set_option maxRecDepth 20000

theorem lft_bits : ∀ t, t < 255 → lft (2 * 2 ^ t) 128 = td (lft (2 ^ t) 128) := by decide +kernel
theorem lft_dbl (N : Nat) (h : N < 2 ^ 255) : lft (2 * N) 128 = td (lft N 128) :=
  by_bits (fun N => lft (2 * N) 128) (fun N => td (lft N 128)) (fun a b => by rw [dbl_plain, lft_xor]) (fun a b => by rw [lft_xor, td_xor]) 255 lft_bits N h
theorem lft_shift (y i : Nat) (hy : y < 2 ^ 128) (hi : i ≤ 127) : lft (2 ^ i * y) 128 = tdn y i := by
  induction i with
  | zero => rw [Nat.pow_zero, Nat.one_mul, lft_low y 128 hy]; rfl
  | succ i ih =>
    have e : 2 ^ (i + 1) * y = 2 * (2 ^ i * y) := by rw [Nat.pow_succ, Nat.mul_comm (2 ^ i) 2, Nat.mul_assoc]
    have hlt : 2 ^ i * y < 2 ^ 255 := by
      have h1 : 2 ^ i * y < 2 ^ i * 2 ^ 128 := Nat.mul_lt_mul_of_pos_left hy (Nat.two_pow_pos i)
      rw [← Nat.pow_add] at h1
      exact Nat.lt_of_lt_of_le h1 (Nat.pow_le_pow_right (by omega) (by omega))
    rw [e, lft_dbl _ hlt, ih (by omega), tdn]

/-- the first i bits of x, times y, without carries -/
def cl (x y : Nat) : Nat → Nat
  | 0 => 0
  | i + 1 => cl x y i ^^^ sel (x.testBit i) (2 ^ i * y)
/-- and the first j bits of y beside the next one of x -/
def clj (x y i j : Nat) : Nat := cl x y i ^^^ sel (x.testBit i) (2 ^ i * (y % 2 ^ j))
theorem clj_zero (x y i : Nat) : clj x y i 0 = cl x y i := by
  unfold clj
  rw [Nat.pow_zero, Nat.mod_one, Nat.mul_zero]
  cases x.testBit i <;> simp [sel]
theorem clj_end (x y i n : Nat) (h : y < 2 ^ n) : clj x y i n = cl x y (i + 1) := by
  unfold clj
  rw [Nat.mod_eq_of_lt h]
  rfl
theorem mod_next (y j : Nat) : y % 2 ^ (j + 1) = (y % 2 ^ j) ^^^ sel (y.testBit j) (2 ^ j) := by
  apply Nat.eq_of_testBit_eq
  intro i
  rw [Nat.testBit_xor, Nat.testBit_mod_two_pow, Nat.testBit_mod_two_pow]
  by_cases e : i = j
  · subst e
    cases h : y.testBit i <;> simp [sel, Nat.testBit_two_pow_self]
  · have : (sel (y.testBit j) (2 ^ j)).testBit i = false := by
      cases y.testBit j
      · simp [sel]
      · simp [sel, Nat.testBit_two_pow_of_ne (fun h => e h.symm)]
    rw [this, Bool.xor_false]
    by_cases h : i < j
    · simp [h, show i < j + 1 by omega]
    · simp [h, show ¬ i < j + 1 by omega]
theorem shl_xor (i a b : Nat) : 2 ^ i * (a ^^^ b) = 2 ^ i * a ^^^ 2 ^ i * b := by
  apply Nat.eq_of_testBit_eq
  intro t
  rw [Nat.testBit_xor, Nat.testBit_two_pow_mul, Nat.testBit_two_pow_mul, Nat.testBit_two_pow_mul, Nat.testBit_xor]
  by_cases h : t ≥ i <;> simp [h]
/-- one more -/
theorem clj_next (x y i j : Nat) : clj x y i (j + 1) = clj x y i j ^^^ sel (x.testBit i && y.testBit j) (2 ^ (i + j)) := by
  unfold clj
  rw [mod_next, shl_xor, Nat.xor_assoc]
  congr 1
  cases x.testBit i <;> cases y.testBit j <;> simp [sel, Nat.pow_add]
theorem tgf_sum (n a b : Nat) : ∀ k, k ≤ n → tgf n a b = (tgf k a b) ^^^ tgf (n - k) (tdn a k) (b / 2 ^ k) := by
  induction n generalizing a b with
  | zero =>
    intro k hk
    have : k = 0 := by omega
    subst this
    simp [tgf, tdn]
  | succ n ih =>
    intro k hk
    cases k with
    | zero => simp [tgf, tdn]
    | succ k =>
      rw [tgf, tgf, ih (td a) (b / 2) k (by omega), Nat.xor_assoc, show n + 1 - (k + 1) = n - k by omega, tdn_td, tdn, Nat.div_div_eq_div_mul, Nat.pow_succ, Nat.mul_comm 2]
theorem tgf_snoc (k a b : Nat) : tgf (k + 1) a b = tgf k a b ^^^ sel (b.testBit k) (tdn a k) := by
  rw [tgf_sum (k + 1) a b k (by omega), show k + 1 - k = 1 by omega, tgf, tgf, Nat.xor_zero, Nat.testBit_div_two_pow, Nat.zero_add]
/-- what is left of the product of rows is the product -/
theorem lft_cl (x y k : Nat) (hy : y < 2 ^ 128) (hk : k ≤ 128) : lft (cl x y k) 128 = tgf k y x := by
  induction k with
  | zero => exact lft_zero 128
  | succ k ih =>
    rw [cl, lft_xor, ih (by omega), tgf_snoc]
    congr 1
    cases x.testBit k
    · simp [sel, lft_zero]
    · simp only [sel, cond_true]; exact lft_shift y k hy (by omega)
theorem lft_mul (x y : Nat) (hx : x < 2 ^ 128) (hy : y < 2 ^ 128) : lft (cl x y 128) 128 = tp x y := by
  rw [lft_cl x y 128 hy (Nat.le_refl _), tp_comm x y hx hy]
  rfl
theorem cl_lt (x y k : Nat) (hy : y < 2 ^ 128) (hk : k ≤ 128) : cl x y k < 2 ^ 256 := by
  induction k with
  | zero => exact Nat.two_pow_pos 256
  | succ k ih =>
    refine Nat.xor_lt_two_pow (ih (by omega)) (sel_lt _ _ _ ?_)
    have h1 : 2 ^ k * y < 2 ^ k * 2 ^ 128 := Nat.mul_lt_mul_of_pos_left hy (Nat.two_pow_pos k)
    rw [← Nat.pow_add] at h1
    exact Nat.lt_of_lt_of_le h1 (Nat.pow_le_pow_right (by omega) (by omega))
end Go.Proofs.YtbkaecjkgjkheaaDoor

/- XTS on lists of bytes: blocks, masks, each undoes the other. No claim of its own. -/
namespace Go.Proofs.YtbkaecjkgjkheaaDoor.xt
open Go.RowKit
set_option maxRecDepth 20000

/-- the j-th block -/
def cut16 (s : List Int) (j : Nat) : List Int := (s.take (16 * j + 16)).drop (16 * j)
theorem cut16_len (s : List Int) (j : Nat) (h : 16 * j + 16 ≤ s.length) : (cut16 s j).length = 16 := by simp [cut16]; omega
theorem cut16_gb (s : List Int) (j t : Nat) (h : t < 16) : gb (cut16 s j) t = gb s (16 * j + t) := gb_cut s (16 * j) (16 * j + 16) t (by omega)
theorem cut16_all (s : List Int) (j : Nat) (h : AllB s) : AllB (cut16 s j) := allB_mem fun x hx => by
  obtain ⟨i, hi, rfl⟩ := mem_gb (List.mem_of_mem_take (List.mem_of_mem_drop hx))
  exact h i
theorem cut16_blk (s : List Int) (j : Nat) (ha : AllB s) (h : 16 * j + 16 ≤ s.length) : Blk (cut16 s j) := ⟨cut16_len s j h, cut16_all s j ha⟩
theorem cut16_next (s : List Int) (j : Nat) : s.take (16 * (j + 1)) = s.take (16 * j) ++ cut16 s j := by
  unfold cut16
  rw [show 16 * (j + 1) = 16 * j + 16 by omega]
  have h := (List.take_append_drop (16 * j) (s.take (16 * j + 16))).symm
  rwa [List.take_take, show min (16 * j) (16 * j + 16) = 16 * j by omega] at h

/-- the mask of the j-th block -/
def msk (M j : Nat) : List Int := bt16 (tdn M j)
theorem msk_blk (M j : Nat) : Blk (msk M j) := ⟨bt16_len _, bt16_all _⟩
theorem msk_next (M j : Nat) (h : M < 2 ^ 128) : bt16 (td (nm16 (msk M j))) = msk M (j + 1) := by
  unfold msk
  rw [nm_bt _ (tdn_lt M j h), tdn]
theorem msk_zero (m : List Int) (h : Blk m) : msk (nm16 m) 0 = m := bt_nm m h

/-- a block, encrypted and decrypted under a mask -/
def xe (k m b : List Int) : List Int := xorl (encr k (xorl b m)) m
def xd (k m b : List Int) : List Int := xorl (decr k (xorl b m)) m
theorem xe_blk (k : List Int) (hk : k.length = 32) (ha : AllB k) (m b : List Int) (hm : Blk m) (hb : Blk b) : Blk (xe k m b) := xorl_blk _ _ (encr_blk k hk ha _ (xorl_blk _ _ hb hm)) hm
theorem xd_blk (k : List Int) (hk : k.length = 32) (ha : AllB k) (m b : List Int) (hm : Blk m) (hb : Blk b) : Blk (xd k m b) := xorl_blk _ _ (decr_blk k hk ha _ (xorl_blk _ _ hb hm)) hm
theorem xd_xe (k : List Int) (hk : k.length = 32) (ha : AllB k) (m b : List Int) (hm : Blk m) (hb : Blk b) : xd k m (xe k m b) = b := by
  have h1 := xorl_blk _ _ hb hm
  unfold xd xe
  rw [xorl_bb _ _ (encr_blk k hk ha _ h1) hm, decr_encr k hk ha _ h1, xorl_bb _ _ hb hm]
theorem xe_xd (k : List Int) (hk : k.length = 32) (ha : AllB k) (m b : List Int) (hm : Blk m) (hb : Blk b) : xe k m (xd k m b) = b := by
  have h1 := xorl_blk _ _ hb hm
  unfold xd xe
  rw [xorl_bb _ _ (decr_blk k hk ha _ h1) hm, encr_decr k hk ha _ h1, xorl_bb _ _ hb hm]
theorem xe_only (k : List Int) (hk : k.length = 32) (ha : AllB k) (m b c : List Int) (hm : Blk m) (hb : Blk b) (hc : Blk c) : xe k m b = xe k m c ↔ b = c := by
  constructor
  · intro h
    rw [← xd_xe k hk ha m b hm hb, h, xd_xe k hk ha m c hm hc]
  · rintro rfl; rfl

/-- the first n blocks of a sector, one by one -/
def run (f : List Int → List Int → List Int) (M : Nat) (s : List Int) : Nat → List Int
  | 0 => []
  | n + 1 => run f M s n ++ f (msk M n) (cut16 s n)
/-- f makes blocks of blocks -/
def Keeps (f : List Int → List Int → List Int) : Prop := ∀ m b, Blk m → Blk b → Blk (f m b)
theorem run_len (f : List Int → List Int → List Int) (hf : Keeps f) (M : Nat) (s : List Int) (ha : AllB s) (n : Nat) (h : 16 * n ≤ s.length) : (run f M s n).length = 16 * n := by
  induction n with
  | zero => rfl
  | succ n ih => rw [run, List.length_append, ih (by omega), (hf _ _ (msk_blk M n) (cut16_blk s n ha (by omega))).1]; omega
theorem run_all (f : List Int → List Int → List Int) (hf : Keeps f) (M : Nat) (s : List Int) (ha : AllB s) (n : Nat) (h : 16 * n ≤ s.length) : AllB (run f M s n) := by
  induction n with
  | zero => exact allB_mem (by simp [run])
  | succ n ih =>
    refine allB_mem fun x hx => ?_
    rw [run, List.mem_append] at hx
    rcases hx with hx | hx
    · obtain ⟨i, _, rfl⟩ := mem_gb hx
      exact ih (by omega) i
    · obtain ⟨i, _, rfl⟩ := mem_gb hx
      exact (hf _ _ (msk_blk M n) (cut16_blk s n ha (by omega))).2 i
theorem cut16_left (xs ys : List Int) (j : Nat) (h : 16 * j + 16 ≤ xs.length) : cut16 (xs ++ ys) j = cut16 xs j := by
  unfold cut16
  rw [List.take_append_of_le_length h]
theorem cut16_right (xs ys : List Int) (j : Nat) (h : xs.length = 16 * j) (hy : ys.length = 16) : cut16 (xs ++ ys) j = ys := by
  unfold cut16
  rw [List.take_of_length_le (by rw [List.length_append]; omega), List.drop_append_of_le_length (by omega), List.drop_eq_nil_of_le (by omega), List.nil_append]
theorem run_cut (f : List Int → List Int → List Int) (hf : Keeps f) (M : Nat) (s : List Int) (ha : AllB s) (n : Nat) (h : 16 * n ≤ s.length) (j : Nat) (hj : j < n) : cut16 (run f M s n) j = f (msk M j) (cut16 s j) := by
  induction n with
  | zero => omega
  | succ n ih =>
    have hl := run_len f hf M s ha n (by omega)
    have hb := hf _ _ (msk_blk M n) (cut16_blk s n ha (by omega))
    rw [run]
    by_cases e : j < n
    · rw [cut16_left _ _ _ (by omega), ih (by omega) e]
    · have : j = n := by omega
      subst this
      rw [cut16_right _ _ _ hl hb.1]
/-- each undoes the other -/
theorem run_back (f g : List Int → List Int → List Int) (hf : Keeps f) (hfg : ∀ m b, Blk m → Blk b → g m (f m b) = b) (M : Nat) (s : List Int) (ha : AllB s) (n : Nat) (h : 16 * n ≤ s.length) : ∀ j, j ≤ n → run g M (run f M s n) j = s.take (16 * j) := by
  intro j
  induction j with
  | zero => intro _; simp [run]
  | succ j ih =>
    intro hj
    rw [run, ih (by omega), run_cut f hf M s ha n h j (by omega), hfg _ _ (msk_blk M j) (cut16_blk s j ha (by omega)), cut16_next]
theorem run_whole (f g : List Int → List Int → List Int) (hf : Keeps f) (hfg : ∀ m b, Blk m → Blk b → g m (f m b) = b) (M : Nat) (s : List Int) (ha : AllB s) (n : Nat) (h : s.length = 16 * n) : run g M (run f M s n) n = s := by
  rw [run_back f g hf hfg M s ha n (by omega) n (Nat.le_refl _), List.take_of_length_le (by omega)]
end Go.Proofs.YtbkaecjkgjkheaaDoor.xt

/- A cipher that xts' New made, and what New and isSector answer. No claim of its own. -/
namespace Go.Proofs.YtbkaecjkgjkheaaDoor.xt
open Go.RowKit
set_option maxRecDepth 20000

/-- a cipher that New made: its two keys -/
def Cip (w : World) (c : Nat) (dk tk : List Int) : Prop :=
  ∃ kd kt, w.cell? ⟨c, 0, none⟩ = some (.pointer (some ⟨kd, 0, none⟩)) ∧ w.cell? ⟨c, 1, none⟩ = some (.pointer (some ⟨kt, 0, none⟩)) ∧ KeyA w kd dk ∧ KeyA w kt tk
theorem Cip.lt {w : World} {c : Nat} {dk tk : List Int} (h : Cip w c dk tk) : c < w.heap.size := by
  obtain ⟨kd, kt, h1, -, -, -⟩ := h
  exact World.block_lt_of_cell? w _ h1
theorem Cip.below {w w' : World} {c : Nat} {dk tk : List Int} (h : Cip w c dk tk) (hb : Below w.heap.size w w') : Cip w' c dk tk := by
  have hl := h.lt
  obtain ⟨kd, kt, h1, h2, h3, h4⟩ := h
  refine ⟨kd, kt, ?_, ?_, h3.below hb h3.lt, h4.below hb h4.lt⟩
  · rw [World.cell?_of_block (w := w) (w' := w') (a := ⟨c, 0, none⟩) (hb.block c hl)]; exact h1
  · rw [World.cell?_of_block (w := w) (w' := w') (a := ⟨c, 1, none⟩) (hb.block c hl)]; exact h2
theorem Cip.new {w : World} {kd kt : Nat} {dk tk : List Int} (hd : KeyA w kd dk) (ht : KeyA w kt tk) : Cip (w.alloc (.cells #[.pointer (some ⟨kd, 0, none⟩), .pointer (some ⟨kt, 0, none⟩)] 61)) w.heap.size dk tk := by
  have e : ∀ i, (w.alloc (.cells #[.pointer (some ⟨kd, 0, none⟩), .pointer (some ⟨kt, 0, none⟩)] 61)).cell? ⟨w.heap.size, i, none⟩ = #[Value.pointer (some ⟨kd, 0, none⟩), .pointer (some ⟨kt, 0, none⟩)][i]? := fun i => cell_of_row _ w.heap.size i _ 61 (0, 0) (heap_alloc_last w _)
  have hb : Below w.heap.size w (w.alloc (.cells #[.pointer (some ⟨kd, 0, none⟩), .pointer (some ⟨kt, 0, none⟩)] 61)) := (Below.refl _ _).alloc (Nat.le_refl _) _
  exact ⟨kd, kt, by rw [e]; rfl, by rw [e]; rfl, hd.below hb hd.lt, ht.below hb ht.lt⟩

theorem Own.below {B : Nat} {w w' : World} {v : Value} {xs : List Int} (h : Own B w v xs) (hb : Below w.heap.size w w') : Own B w' v xs :=
  World.ownsRow.kept (row := none) h ⟨hb.os, hb.tape, hb.output, hb.size, fun j hj _ => hb.block j hj⟩ (by cases hv : v.ownBlock <;> simp)

/-- what lies apart from the row that grows stays -/
theorem Byt.grownBy {w w' : World} {v : Value} {xs : List Int} {row : Option Nat} (h : Byt w v xs) (hg : w.grownBy w' row) (hf : v.ownBlock ≠ row) : Byt w' v xs := by
  obtain ⟨ao, cap, rfl, h1, h2, h3, h4, h5⟩ := h
  refine ⟨ao, cap, rfl, h1, h2, h3, h4, fun hp => ?_⟩
  obtain ⟨b, off, rfl, hc⟩ := h5 hp
  refine ⟨b, off, rfl, fun t ht => ?_⟩
  have := hc t ht
  rw [World.cell?_of_block (w := w) (w' := w') (a := ⟨b, off + t, none⟩) (hg.block b (World.block_lt_of_cell? w _ this) hf)]
  exact this
/-- a row that was made later lies apart -/
theorem far_new {B : Nat} {w w' : World} {v v' : Value} {xs ys : List Int} (h : Own B w v xs) (h' : Own w.heap.size w' v' ys) (hy : 0 < ys.length) : v'.ownBlock ≠ v.ownBlock := by
  rcases h'.2 with ⟨-, hn⟩ | ⟨g, cap, cur, rfl, hg, -⟩
  · omega
  · intro e
    have := (World.ownsRow.lt h g e.symm).2
    omega
theorem far_old {w : World} {v : Value} {xs : List Int} (h : Byt w v xs) (hx : 0 < xs.length) (n c : Nat) : v.ownBlock ≠ (Value.slice (some ⟨w.heap.size, 0, none⟩) n c).ownBlock := by
  obtain ⟨ao, cap, rfl, h1, h2, h3, h4, h5⟩ := h
  obtain ⟨b, off, rfl, hc⟩ := h5 hx
  have := World.block_lt_of_cell? w _ (hc 0 hx)
  intro e
  have e' : some b = some w.heap.size := e
  injection e' with e'
  have h6 : b < w.heap.size := this
  omega
/-- 'append(out, s...)' of bytes, out of the call's own; all but its block stays -/
theorem pushs_lawX {ops : Array Oper} {rest : List Oper} {o : Oper} {a : Act} {Q : Exit → Act → World → Prop} (w : World) (hg : o.guard = none) (s x : Operand) (hop : o.op = .call { callee := .builtin .append, args := #[s, x], argTypes := #[22, 22] })
    (B : Nat) (hB : B ≤ w.heap.size) (v vy : Value) (xs ys : List Int) (hs : a.eval s = v) (hx : a.eval x = vy) (hown : Own B w v xs) (hy : Byt w vy ys) (hn : xs.length ≤ 1099511627776) (hm : ys.length ≤ 1099511627776) (hp : 0 < ys.length)
    (hK : ∀ v' w', Own B w' v' (xs ++ ys) → Below B w w' → w.grownBy w' v.ownBlock → wpList Tryd.prog ops Q rest (a.put o.dst v') w') :
    wpList Tryd.prog ops Q (o :: rest) a w := by
  obtain ⟨i0, hi, hz0, hz1, hz2⟩ := info_parts info_u8
  obtain ⟨ao, cap, rfl, h1, h2, h3, h4, h5⟩ := hy
  obtain ⟨b, off, rfl, hc⟩ := h5 hp
  refine wpList_append_own _ hg s x 22 hop B 5 i0 (.int .u8 0) 1 1 Tryd.underlying22 hi hz0 hz1 hz2 rfl (by decide) v xs.length _ hs hown ⟨b, off, none⟩ ys.length cap (ys.map (Value.int .u8)) hx (by simp) ?_ ?_ (by simp only [maxLen]; omega) (by omega) hB fun v' w' h1 h2 _ => ?_
  · intro j u hj
    have hjl : j < ys.length := by have := (List.getElem?_eq_some_iff.1 hj).1; simpa using this
    rw [Addr.add_mid, hc j hjl, ← hj]
    simp [gb, List.getD, hjl]
  · intro u hu
    simp only [List.mem_map] at hu
    obtain ⟨y, _, rfl⟩ := hu
    rfl
  · refine hK v' w' ?_ ?_ h2
    · show w'.ownsRow B 5 1 v' (xs ++ ys).length ((xs ++ ys).map (Value.int .u8))
      simpa using h1
    · exact (Below.refl B w).grown h2 hB fun k hk => (World.ownsRow.lt hown k hk).1

set_option maxHeartbeats 2000000 in
theorem xnew_any (vd vt : Value) (dk tk : List Int) (w : World) (hd : Byt w vd dk) (ht : Byt w vt tk) (hl : dk.length = 32) (hm : tk.length = 32) :
    Calls Tryd.prog 17 #[vd, vt] w fun e w' => ∃ c, e = .returned (.tuple #[.pointer (some ⟨c, 0, none⟩), .int .i64 0]) ∧ Cip w' c dk tk ∧ w.heap.size ≤ c ∧ Below w.heap.size w w' := by
  have S1 : Hid (Calls Tryd.prog 29 #[vd] w fun e w' => ∃ kb, e = .returned (.tuple #[.pointer (some ⟨kb, 0, none⟩), .int .i64 0]) ∧ KeyA w' kb dk ∧ w.heap.size ≤ kb ∧ Below w.heap.size w w') := new_any vd dk w hd hl
  have S2 : Hid (∀ w0, Byt w0 vt tk → Calls Tryd.prog 29 #[vt] w0 fun e w' => ∃ kb, e = .returned (.tuple #[.pointer (some ⟨kb, 0, none⟩), .int .i64 0]) ∧ KeyA w' kb tk ∧ w0.heap.size ≤ kb ∧ Below w0.heap.size w0 w') := fun w0 h => new_any vt tk w0 h hm
  have HT : Hid (Byt w vt tk) := ht
  clear hd ht hl hm
  go_enter Tryd.func17, Tryd.ntmps17
  go_wp2_with (first
    | (have q1 := lk1; go_at_call 29; refine (S2.out _ (HT.out.below B1)).mono ?_; rintro e w2 ⟨kt, rfl, k2, L2, B2⟩; have K2 : Hid (KeyA w2 kt tk) := k2; have KD : Hid (KeyA w2 kd dk) := K1.out.below B2 lk1; clear k2)
    | (go_at_call 29; refine (S1.out).mono ?_; rintro e w1 ⟨kd, rfl, k1, L1, B1⟩; have K1 : Hid (KeyA w1 kd dk) := k1; have lk1 : kd < w1.heap.size := k1.lt; clear k1))
  have BB : Below w.heap.size w w2 := B1.trans (B2.mono B1.size)
  go_ret2
  exact ⟨_, rfl, Cip.new KD.out K2.out, BB.size, BB.alloc BB.size _⟩

set_option maxHeartbeats 2000000 in
theorem xnew_no (vd vt : Value) (dk tk : List Int) (w : World) (hd : Byt w vd dk) (ht : Byt w vt tk) (hn : ¬ (dk.length = 32 ∧ tk.length = 32)) :
    Calls Tryd.prog 17 #[vd, vt] w fun e w' => e = .returned (.tuple #[.pointer none, .int .i64 2]) ∧ Below w.heap.size w w' := by
  by_cases hl : dk.length = 32
  · have hm : ¬ tk.length = 32 := fun h => hn ⟨hl, h⟩
    have S1 : Hid (Calls Tryd.prog 29 #[vd] w fun e w' => ∃ kb, e = .returned (.tuple #[.pointer (some ⟨kb, 0, none⟩), .int .i64 0]) ∧ KeyA w' kb dk ∧ w.heap.size ≤ kb ∧ Below w.heap.size w w') := new_any vd dk w hd hl
    have S2 : Hid (∀ w0, Byt w0 vt tk → Calls Tryd.prog 29 #[vt] w0 fun e w' => e = .returned (.tuple #[.pointer none, .int .i64 2]) ∧ w' = w0) := fun w0 h => new_no vt tk w0 h hm
    have HT : Hid (Byt w vt tk) := ht
    clear hd ht hl hm hn
    go_enter Tryd.func17, Tryd.ntmps17
    go_wp2_with (first
      | (have q1 := lk1; go_at_call 29; refine (S2.out _ (HT.out.below B1)).mono ?_; rintro e wx ⟨rfl, hw⟩; obtain rfl := hw.symm)
      | (go_at_call 29; refine (S1.out).mono ?_; rintro e w1 ⟨kd, rfl, k1, L1, B1⟩; have lk1 : kd < w1.heap.size := k1.lt; clear k1))
    go_ret2
    exact ⟨rfl, B1⟩
  · have S1 : Hid (Calls Tryd.prog 29 #[vd] w fun e w' => e = .returned (.tuple #[.pointer none, .int .i64 2]) ∧ w' = w) := new_no vd dk w hd hl
    clear hd ht hl hn
    go_enter Tryd.func17, Tryd.ntmps17
    go_wp2_with (go_at_call 29; refine (S1.out).mono ?_; rintro e wx ⟨rfl, hw⟩; obtain rfl := hw.symm)
    go_ret2
    exact ⟨rfl, Below.refl _ _⟩

set_option maxHeartbeats 1000000 in
theorem sector_any (w : World) (v : Value) (xs : List Int) (h : Byt w v xs) (b : Bool) (hb : b = decide (16 ≤ xs.length ∧ xs.length ≤ 4096 ∧ xs.length % 16 = 0)) :
    Calls Tryd.prog 60 #[v] w fun e w' => e = .returned (.bool b) ∧ w' = w := by
  obtain ⟨ao, cap, rfl, h1, h2, -, -, -⟩ := h
  obtain ⟨n, hn⟩ : ∃ n, n = xs.length := ⟨_, rfl⟩
  rw [← hn] at hb h1 ⊢
  clear hn
  have HB : Hid (b = decide (16 ≤ n ∧ n ≤ 4096 ∧ n % 16 = 0)) := hb
  clear hb
  obtain ⟨m, hm⟩ : ∃ m, m = n % 16 := ⟨_, rfl⟩
  have HM : Hid (m = n % 16) := hm
  have d1 : (n : Int).tmod 16 = (m : Int) := by rw [Int.tmod_eq_emod_of_nonneg (by omega)]; omega
  have d2 : IntKind.i64.wrap (m : Int) = m := by rw [IntKind.wrap_i64]; omega
  clear hm
  by_cases a1 : 16 ≤ n
  · have l1 : (16 : Int) ≤ (n : Int) := by omega
    by_cases a2 : n ≤ 4096
    · have l2 : (n : Int) ≤ 4096 := by omega
      by_cases a3 : m = 0
      · subst a3
        go_enter Tryd.func60, Tryd.ntmps60
        go_wp2
        go_ret
        exact ⟨ret_bool (by rw [HB.out, ← HM.out]; simp; omega), rfl⟩
      · have l3 : ¬ ((m : Int) = 0) := by omega
        go_enter Tryd.func60, Tryd.ntmps60
        go_wp2
        go_ret
        have e0 : ((m : Int) == 0) = false := by simpa using a3
        exact ⟨ret_bool (by rw [HB.out, ← HM.out, e0]; simp [a3]), rfl⟩
    · have l2 : ¬ (n : Int) ≤ 4096 := by omega
      go_enter Tryd.func60, Tryd.ntmps60
      go_wp2
      go_ret
      exact ⟨ret_bool (by rw [HB.out]; simp; omega), rfl⟩
  · have l1 : ¬ (16 : Int) ≤ (n : Int) := by omega
    go_enter Tryd.func60, Tryd.ntmps60
    go_wp2
    go_ret
    exact ⟨ret_bool (by rw [HB.out]; simp; omega), rfl⟩
end Go.Proofs.YtbkaecjkgjkheaaDoor.xt

/- What xts' underMask answers. No claim of its own. -/
namespace Go.Proofs.YtbkaecjkgjkheaaDoor.xt
open Go.RowKit
set_option maxRecDepth 20000

set_option maxHeartbeats 2000000 in
theorem under_enc (kd : Nat) (bv mv : Value) (dk b m : List Int) (w : World) (hk : KeyA w kd dk) (hdl : dk.length = 32) (hda : AllB dk) (hb : Byt w bv b) (hbl : b.length = 16) (hm : Byt w mv m) (hml : m.length = 16) :
    Calls Tryd.prog 62 #[bv, mv, .func (.func 45) #[.pointer (some ⟨kd, 0, none⟩)] #[]] w fun e w' => ∃ v', e = .returned (.tuple #[v', .int .i64 0]) ∧ Byt w' v' (xe dk m b) ∧ Below w.heap.size w w' := by
  have xb := xorl_blk b m ⟨hbl, hb.all⟩ ⟨hml, hm.all⟩
  have zb := encr_blk dk hdl hda (xorl b m) xb
  have S1 : Hid (Calls Tryd.prog 88 #[bv, mv] w fun e w' => ∃ v, e = .returned (.tuple #[v, .int .i64 0]) ∧ Byt w' v (xorl b m) ∧ Below w.heap.size w w') := xor_any bv mv b m w hb hm (by omega) (by omega)
  have S2 : Hid (∀ u w0, KeyA w0 kd dk → Byt w0 u (xorl b m) → Calls Tryd.prog 45 #[.pointer (some ⟨kd, 0, none⟩), u] w0 fun e w' => ∃ g, e = .returned (.tuple #[.slice (some ⟨g, 0, none⟩) 16 16, .int .i64 0]) ∧ Ar w' g 0 .u8 (encr dk (xorl b m)) ∧ w0.heap.size ≤ g ∧ Below w0.heap.size w0 w') := fun u w0 h1 h2 => encrypt_any u (xorl b m) dk kd w0 h1 hdl hda h2 xb.1
  have S3 : Hid (∀ u w0, Byt w0 u (encr dk (xorl b m)) → Byt w0 mv m → Calls Tryd.prog 88 #[u, mv] w0 fun e w' => ∃ v, e = .returned (.tuple #[v, .int .i64 0]) ∧ Byt w' v (xe dk m b) ∧ Below w0.heap.size w0 w') := fun u w0 h1 h2 => xor_any u mv (encr dk (xorl b m)) m w0 h1 h2 (by rw [zb.1, hml]) (by rw [zb.1]; omega)
  have ZB : Hid ((encr dk (xorl b m)).length = 16 ∧ AllB (encr dk (xorl b m))) := ⟨zb.1, zb.2⟩
  have HK : Hid (KeyA w kd dk) := hk
  have HM : Hid (Byt w mv m) := hm
  have lk : kd < w.heap.size := hk.lt
  generalize xe dk m b = rs at *
  generalize encr dk (xorl b m) = zs at *
  generalize xorl b m = xs at *
  clear hk hdl hda hb hbl hm hml xb zb
  go_enter Tryd.func62, Tryd.ntmps62
  go_wp2_with (first
    | (have q2 := L2; go_at_call 88; refine (S3.out _ _ Y2.out ((HM.out.below B1).below B2)).mono ?_; rintro e w3 ⟨v3, rfl, y3, B3⟩; have Y3 : Hid (Byt w3 v3 rs) := y3; clear y3)
    | (have q1 := lk1; go_at_call 45; refine (S2.out _ _ K1.out Y1.out).mono ?_; rintro e w2 ⟨g2, rfl, a2, L2, B2⟩; have Y2 : Hid (Byt w2 (.slice (some ⟨g2, 0, none⟩) 16 16) zs) := a2.bytG ZB.out.2 16 16 ZB.out.1 (by omega) (by omega); clear a2)
    | (go_at_call 88; refine (S1.out).mono ?_; rintro e w1 ⟨v1, rfl, y1, B1⟩; have Y1 : Hid (Byt w1 v1 xs) := y1; have K1 : Hid (KeyA w1 kd dk) := HK.out.below B1 lk; have lk1 : kd < w1.heap.size := K1.out.lt; clear y1))
  have z1 := B1.size
  have z2 := B2.size
  go_ret2
  exact ⟨_, rfl, Y3.out, (B1.trans (B2.mono z1)).trans (B3.mono (by omega))⟩

set_option maxHeartbeats 2000000 in
theorem under_dec (kd : Nat) (bv mv : Value) (dk b m : List Int) (w : World) (hk : KeyA w kd dk) (hdl : dk.length = 32) (hda : AllB dk) (hb : Byt w bv b) (hbl : b.length = 16) (hm : Byt w mv m) (hml : m.length = 16) :
    Calls Tryd.prog 62 #[bv, mv, .func (.func 46) #[.pointer (some ⟨kd, 0, none⟩)] #[]] w fun e w' => ∃ v', e = .returned (.tuple #[v', .int .i64 0]) ∧ Byt w' v' (xd dk m b) ∧ Below w.heap.size w w' := by
  have xb := xorl_blk b m ⟨hbl, hb.all⟩ ⟨hml, hm.all⟩
  have zb := decr_blk dk hdl hda (xorl b m) xb
  have S1 : Hid (Calls Tryd.prog 88 #[bv, mv] w fun e w' => ∃ v, e = .returned (.tuple #[v, .int .i64 0]) ∧ Byt w' v (xorl b m) ∧ Below w.heap.size w w') := xor_any bv mv b m w hb hm (by omega) (by omega)
  have S2 : Hid (∀ u w0, KeyA w0 kd dk → Byt w0 u (xorl b m) → Calls Tryd.prog 46 #[.pointer (some ⟨kd, 0, none⟩), u] w0 fun e w' => ∃ g, e = .returned (.tuple #[.slice (some ⟨g, 0, none⟩) 16 16, .int .i64 0]) ∧ Ar w' g 0 .u8 (decr dk (xorl b m)) ∧ w0.heap.size ≤ g ∧ Below w0.heap.size w0 w') := fun u w0 h1 h2 => decrypt_any u (xorl b m) dk kd w0 h1 hdl hda h2 xb.1
  have S3 : Hid (∀ u w0, Byt w0 u (decr dk (xorl b m)) → Byt w0 mv m → Calls Tryd.prog 88 #[u, mv] w0 fun e w' => ∃ v, e = .returned (.tuple #[v, .int .i64 0]) ∧ Byt w' v (xd dk m b) ∧ Below w0.heap.size w0 w') := fun u w0 h1 h2 => xor_any u mv (decr dk (xorl b m)) m w0 h1 h2 (by rw [zb.1, hml]) (by rw [zb.1]; omega)
  have ZB : Hid ((decr dk (xorl b m)).length = 16 ∧ AllB (decr dk (xorl b m))) := ⟨zb.1, zb.2⟩
  have HK : Hid (KeyA w kd dk) := hk
  have HM : Hid (Byt w mv m) := hm
  have lk : kd < w.heap.size := hk.lt
  generalize xd dk m b = rs at *
  generalize decr dk (xorl b m) = zs at *
  generalize xorl b m = xs at *
  clear hk hdl hda hb hbl hm hml xb zb
  go_enter Tryd.func62, Tryd.ntmps62
  go_wp2_with (first
    | (have q2 := L2; go_at_call 88; refine (S3.out _ _ Y2.out ((HM.out.below B1).below B2)).mono ?_; rintro e w3 ⟨v3, rfl, y3, B3⟩; have Y3 : Hid (Byt w3 v3 rs) := y3; clear y3)
    | (have q1 := lk1; go_at_call 46; refine (S2.out _ _ K1.out Y1.out).mono ?_; rintro e w2 ⟨g2, rfl, a2, L2, B2⟩; have Y2 : Hid (Byt w2 (.slice (some ⟨g2, 0, none⟩) 16 16) zs) := a2.bytG ZB.out.2 16 16 ZB.out.1 (by omega) (by omega); clear a2)
    | (go_at_call 88; refine (S1.out).mono ?_; rintro e w1 ⟨v1, rfl, y1, B1⟩; have Y1 : Hid (Byt w1 v1 xs) := y1; have K1 : Hid (KeyA w1 kd dk) := HK.out.below B1 lk; have lk1 : kd < w1.heap.size := K1.out.lt; clear y1))
  have z1 := B1.size
  have z2 := B2.size
  go_ret2
  exact ⟨_, rfl, Y3.out, (B1.trans (B2.mono z1)).trans (B3.mono (by omega))⟩
end Go.Proofs.YtbkaecjkgjkheaaDoor.xt

/- What twice's polynomials answer: of a list, as a list, doubled, added. No claim of its own. -/
namespace Go.Proofs.YtbkaecjkgjkheaaDoor.tw
open Go.RowKit
set_option maxRecDepth 20000

def z16 : List Int := List.replicate 16 0
theorem z16_len : z16.length = 16 := List.length_replicate
theorem z_poly : (Tryd.prog.info? 123).map (fun i => (i.zero, i.size)) = some (some (.agg (ints .u8 z16)), z16.length) := by kernel_rfl
theorem i_poly : (Tryd.prog.info? 123).map (·.size) = some 16 := by kernel_rfl
theorem laid_all (xs ys : List Int) (h : xs.length = ys.length) : laid xs 0 ys = ys := by
  unfold laid
  rw [List.take_zero, List.nil_append, List.drop_eq_nil_of_le (by omega), List.append_nil]
theorem gb_setT (xs : List Int) (i t : Nat) (x : Int) (h : t < xs.length) : gb (xs.set i x) t = if i = t then x else gb xs t := set_gb xs i t x h
theorem range_gbT (n : Nat) (f : Nat → Int) (t : Nat) (h : t < n) : gb ((List.range n).map f) t = f t := by simp [gb, List.getD, h]

section
variable {ops : Array Oper} {rest : List Oper} {o : Oper} {a : Act} {Q : Exit → Act → World → Prop}
/-- 'copy(d, s)' of as many bytes as d has room for -/
theorem copy_lawG (w : World) (hg : o.guard = none) (x y : Operand) (hop : o.op = .call { callee := .builtin .copy, args := #[x, y], argTypes := #[22, 22] })
    (b p n dc : Nat) (v : Value) (xs ys : List Int) (hx : a.eval x = .slice (some ⟨b, p, none⟩) n dc) (hy : a.eval y = v) (hb : Byt w v ys) (hA : Ar w b 0 .u8 xs) (hn : ys.length = n) (hl : p + n ≤ xs.length)
    (hK : ∀ w', Ar w' b 0 .u8 (laid xs p ys) → Below b w w' → wpList Tryd.prog ops Q rest (a.put o.dst (.int .i64 (n : Int))) w') :
    wpList Tryd.prog ops Q (o :: rest) a w := by
  refine wpList_plain hg fun K hK' => ?_
  obtain ⟨ao, cap, rfl, h1, h2, h3, h4, h5⟩ := hb
  have e : min ys.length n = n := by omega
  have hrun := run_copyG w b p n dc ao ys cap o.type h5 (by rw [e]; exact thereG hA p n hl)
  rw [e, List.take_of_length_le (by omega)] at hrun
  unfold Oper.wp execOp
  simp only [hop, resolve, invoke, builtin, Sem.run_bind, Sem.run_pure, Result.andThen_ok, List.map_toArray, List.map_cons, List.map_nil, hx, hy, hrun]
  exact hK' _ _ (hK _ (hA.layG p ys (by omega)) (below_cells _ (Nat.le_refl _) _ _ (Below.refl _ _)))
/-- an element of a polynomial -/
theorem idx16 (w : World) (hg : o.guard = none) (x y : Operand) (hop : o.op = Op.index 123 x y) (xs : List Int) (I : Int) (i : Nat) (hx : a.eval x = .agg (ints .u8 xs)) (hy : a.eval y = .int .i64 I) (hI : I = (i : Int)) (hl : xs.length = 16) (hi : i < 16)
    (q : Int) (hq : q = gb xs i) (hK : wpList Tryd.prog ops Q rest (a.put o.dst (.int .u8 q)) w) : wpList Tryd.prog ops Q (o :: rest) a w := by
  subst hq
  subst hI
  refine wpList_plain hg fun K hK' => ?_
  have e : (ints .u8 xs)[i]? = some (.int .u8 (gb xs i)) := by simp [ints, gb, List.getD, show i < xs.length by omega]
  have hu := Tryd.underlying123
  have hu2 := Tryd.underlying5
  have hsz : (ints .u8 xs).size = 16 := by simp [ints, hl]
  have hr : (Instr.index 123 (.agg (ints .u8 xs)) (.int .i64 i)).run Tryd.prog w = .ok (.int .u8 (gb xs i)) w := by
    simp [Instr.index, asIntOf, run_underlying hu, run_underlying hu2, Go.part, isAgg, e]
    intro h; omega
  unfold Oper.wp execOp
  simp only [hop, hx, hy, Sem.run_bind, Sem.run_pure, Result.andThen_ok, hr]
  exact hK' _ _ hK
end

set_option linter.unusedSimpArgs false in
set_option maxRecDepth 20000 in
set_option maxHeartbeats 2000000 in
theorem tof_any (v : Value) (xs : List Int) (w : World) (hv : Byt w v xs) (hl : xs.length = 16) :
    Calls Tryd.prog 101 #[v] w fun e w' => e = .returned (.agg (ints .u8 xs)) ∧ Below w.heap.size w w' := by
  have HV : Hid (Byt w v xs) := hv
  have HL : Hid (xs.length = 16) := hl
  have HZ : Hid (laid z16 0 xs = xs) := laid_all z16 xs (by rw [z16_len, hl])
  clear hv hl
  go_enter Tryd.func101, Tryd.ntmps101
  go_wp2_with (first
    | (have q2 := s2; refine copy_lawG _ rfl (.tmp 4) (.tmp 5) rfl w1.heap.size 0 16 16 v z16 xs rfl rfl (HV.out.below (B1.trans (B2.mono (by omega)))) HA2.out HL.out (by rw [z16_len]; omega) ?_; intro w3 A3 B3; rw [HZ.out] at A3; have HA3 : Hid (Ar w3 w1.heap.size 0 .u8 xs) := A3; clear A3)
    | (have q1 := s1; refine new_lawF _ rfl 123 rfl .u8 z16 z_poly ?_; intro w2 A2 B2 s2; have HA2 : Hid (Ar w2 w1.heap.size 0 .u8 z16) := A2; clear A2)
    | (refine new_lawF _ rfl 123 rfl .u8 z16 z_poly ?_; intro w1 A1 B1 s1; have HA1 : Hid (Ar w1 w.heap.size 0 .u8 z16) := A1; clear A1)
    | (refine load_law _ rfl (.tmp 3) 123 rfl .u8 xs w1.heap.size 0 rfl HA3.out 16 5 Tryd.underlying123 i_poly HL.out ?_)
    | (refine store_lawF _ rfl (.tmp 2) (.tmp 7) 123 rfl .u8 z16 xs w.heap.size rfl rfl (((HA1.out.below B2 s1)).below B3 s1) 16 i_poly z16_len HL.out ?_; intro w7 A7 B7))
  refine bodyPost_ret (v := .agg (ints .u8 xs)) (results_ar rfl _ _ w.heap.size 0 .u8 xs rfl A7 16 5 Tryd.underlying123 i_poly HL.out) rfl ⟨rfl, ?_⟩
  exact ((B1.trans (B2.mono (by omega))).trans (B3.mono (by omega))).trans B7

set_option linter.unusedSimpArgs false in
set_option maxRecDepth 20000 in
set_option maxHeartbeats 2000000 in
theorem tlst_any (xs : List Int) (w : World) (hl : xs.length = 16) (hx : AllB xs) :
    Calls Tryd.prog 102 #[.agg (ints .u8 xs)] w fun e w' => ∃ g, e = .returned (.slice (some ⟨g, 0, none⟩) 16 16) ∧ Ar w' g 0 .u8 xs ∧ w.heap.size ≤ g ∧ Below w.heap.size w w' := by
  have HX : Hid (AllB xs) := hx
  have HL : Hid (xs.length = 16) := hl
  have HZ : Hid (laid z16 0 xs = xs) := laid_all z16 xs (by rw [z16_len, hl])
  clear hl hx
  go_enter Tryd.func102, Tryd.ntmps102
  go_wp2_with (first
    | (have q2 := s2; refine copy_lawG _ rfl (.tmp 5) (.tmp 6) rfl w1.heap.size 0 16 16 _ z16 xs rfl rfl ((HA1.out.below B2 s1).bytG HX.out 16 16 HL.out (by omega) (by omega)) HO2.out HL.out (by rw [z16_len]; omega) ?_; intro w3 A3 B3; rw [HZ.out] at A3; have HA3 : Hid (Ar w3 w1.heap.size 0 .u8 xs) := A3; clear A3)
    | (refine box_lawF _ rfl (.tmp 0) 123 rfl .u8 xs rfl ?_; intro w1 A1 B1 s1; have HA1 : Hid (Ar w1 w.heap.size 0 .u8 xs) := A1; clear A1)
    | (at_make; refine make_law _ rfl _ _ rfl w1.heap.size (Nat.le_refl _) 16 16 rfl rfl rfl (by omega) ?_; intro w2 hown B2 s2; have HO2 : Hid (Ar w2 w1.heap.size 0 .u8 z16) := hown.arG; clear hown))
  go_ret
  exact ⟨w1.heap.size, rfl, HA3.out, by omega, B1.trans ((B2.trans B3).mono (by omega))⟩
end Go.Proofs.YtbkaecjkgjkheaaDoor.tw

/- What twice's doubled and plus answer. No claim of its own. -/
namespace Go.Proofs.YtbkaecjkgjkheaaDoor.tw
open Go.RowKit
set_option maxRecDepth 20000

/-! ### a byte, doubled, with the top bit of the one ahead -/
def dN (b c : Nat) : Nat := (b * 2 % 256) ||| (c / 128)
theorem dN_bit0 (b c : Nat) : (dN b c).testBit 0 = c.testBit 7 := by
  unfold dN
  rw [Nat.testBit_or, show c / 128 = c / 2 ^ 7 from rfl, Nat.testBit_div_two_pow, show b * 2 % 256 = b * 2 % 2 ^ 8 from rfl, Nat.testBit_mod_two_pow, Nat.mul_comm, Nat.testBit_zero]
  simp
theorem dN_bit (b c j : Nat) (hc : c < 256) (hj : j < 7) : (dN b c).testBit (j + 1) = b.testBit j := by
  unfold dN
  have : c / 128 < 2 ^ (j + 1) := Nat.lt_of_lt_of_le (show c / 128 < 2 ^ 1 by omega) (Nat.pow_le_pow_right (by omega) (by omega))
  rw [Nat.testBit_or, Nat.testBit_lt_two_pow this, show b * 2 % 256 = b * 2 % 2 ^ 8 from rfl, Nat.testBit_mod_two_pow, Nat.mul_comm, two_bit]
  simp [show j + 1 < 8 by omega]
theorem dN_lt (b c : Nat) (hc : c < 256) : dN b c < 256 := Nat.or_lt_two_pow (n := 8) (by omega) (by omega)
/-- the byte ahead of place i -/
def ah (xs : List Int) (i : Nat) : Int := if i = 0 then 0 else gb xs (i - 1)
theorem ah_bd (xs : List Int) (h : AllB xs) (i : Nat) : 0 ≤ ah xs i ∧ ah xs i ≤ 255 := by
  unfold ah
  split
  · omega
  · exact h _
def dv (xs : List Int) (i : Nat) : Int := ((dN (gb xs i).toNat (ah xs i).toNat : Nat) : Int)
theorem or_dv (xs : List Int) (h : AllB xs) (i : Nat) : bits .or .u8 (gb xs i * 2 % 256) (ah xs i / 128) = dv xs i := by
  have h1 := h i
  have h2 := ah_bd xs h i
  rw [u8_or _ _ (by omega) (by omega) (by omega) (by omega)]
  unfold dv dN
  rw [show (gb xs i * 2 % 256).toNat = (gb xs i).toNat * 2 % 256 by omega, show (ah xs i / 128).toNat = (ah xs i).toNat / 128 by omega]
/-- the bits of a number that is doubled -/
theorem td_bit0 (n : Nat) : (td n).testBit 0 = n.testBit 127 := by
  unfold td
  rw [Nat.testBit_xor, Nat.testBit_mod_two_pow]
  cases n.testBit 127 <;> simp [sel]
theorem td_bit (n t : Nat) (h : t < 127) : (td n).testBit (t + 1) = (n.testBit t ^^ (sel (n.testBit 127) 135).testBit (t + 1)) := by
  unfold td
  rw [Nat.testBit_xor, Nat.testBit_mod_two_pow, two_bit]
  simp [show t + 1 < 128 by omega]
theorem sel_low (c : Bool) (t : Nat) (h : 8 ≤ t) : (sel c 135).testBit t = false :=
  Nat.testBit_lt_two_pow (Nat.lt_of_lt_of_le (sel_lt c 135 256 (by decide)) (Nat.pow_le_pow_right (n := 2) (by omega) (show 8 ≤ t from h)))
theorem byte_eq (n i m : Nat) (hm : m < 256) (h : ∀ j, j < 8 → n.testBit (8 * i + j) = m.testBit j) : n / 2 ^ (8 * i) % 2 ^ 8 = m := by
  apply Nat.eq_of_testBit_eq
  intro j
  by_cases hj : j < 8
  · rw [part_bit n i j hj, h j hj]
  · rw [Nat.testBit_mod_two_pow, Nat.testBit_lt_two_pow (Nat.lt_of_lt_of_le (show m < 2 ^ 8 by omega) (Nat.pow_le_pow_right (by omega) (by omega)))]
    simp [hj]
theorem td_byte (xs : List Int) (hx : B16 xs) (i : Nat) (h1 : 1 ≤ i) (hi : i < 16) : gb (bt16 (td (nm16 xs))) i = dv xs i := by
  rw [bt16_gb _ _ hi]
  unfold dv
  have hc := ah_bd xs hx.2 i
  refine congrArg (fun n : Nat => (n : Int)) (byte_eq _ i _ (dN_lt _ _ (by omega)) fun j hj => ?_)
  obtain ⟨i, rfl⟩ : ∃ k, i = k + 1 := ⟨i - 1, by omega⟩
  have ha : ah xs (i + 1) = gb xs i := by simp [ah]
  cases j with
  | zero =>
    rw [dN_bit0 _ _, show 8 * (i + 1) + 0 = 8 * i + 7 + 1 by omega, td_bit _ _ (by omega), nm_bit xs hx.2 i 7 (by omega) (by omega), sel_low _ _ (by omega), ha, Bool.xor_false]
  | succ j =>
    rw [dN_bit _ _ _ (by omega) (by omega), ← Nat.add_assoc, td_bit _ _ (by omega), nm_bit xs hx.2 (i + 1) j (by omega) (by omega), sel_low _ _ (by omega), Bool.xor_false]
theorem td_byte0 (xs : List Int) (hx : B16 xs) : gb (bt16 (td (nm16 xs))) 0 = xr (dv xs 0) (gb xs 15 / 128 * 135) := by
  rw [bt16_gb _ _ (by omega)]
  unfold xr
  have h15 := hx.2 15
  have h0 := hx.2 0
  have ht : (nm16 xs).testBit 127 = (gb xs 15).toNat.testBit 7 := nm_bit xs hx.2 15 7 (by omega) (by omega)
  have hs : (gb xs 15 / 128 * 135).toNat = sel ((gb xs 15).toNat.testBit 7) 135 := by
    have hb : (gb xs 15).toNat.testBit 7 = decide ((gb xs 15).toNat / 128 % 2 = 1) := by
      rw [Nat.testBit_eq_decide_div_mod_eq]
    rw [hb]
    by_cases c : 128 ≤ (gb xs 15).toNat
    · rw [decide_eq_true (by omega), show gb xs 15 / 128 = 1 by omega]; rfl
    · rw [decide_eq_false (by omega), show gb xs 15 / 128 = 0 by omega]; rfl
  rw [hs]
  have e0 : (dv xs 0).toNat = dN (gb xs 0).toNat 0 := by simp [dv, ah]
  rw [e0]
  have hd := dN_lt (gb xs 0).toNat 0 (by omega)
  refine congrArg (fun n : Nat => (n : Int)) (byte_eq _ 0 _ (Nat.xor_lt_two_pow (n := 8) hd (sel_lt _ _ _ (by decide))) fun j hj => ?_)
  rw [Nat.testBit_xor, Nat.mul_zero, Nat.zero_add]
  cases j with
  | zero =>
    rw [dN_bit0 _ _, td_bit0, ht, Nat.zero_testBit, Bool.false_xor]
    cases (gb xs 15).toNat.testBit 7 <;> rfl
  | succ j =>
    have := nm_bit xs hx.2 0 j (by omega) (by omega)
    rw [Nat.mul_zero, Nat.zero_add] at this
    rw [dN_bit _ _ _ (by omega) (by omega), td_bit _ _ (by omega), this, ht]
/-- the first k bytes, doubled -/
def prd (xs : List Int) (k : Nat) : List Int := (List.range 16).map fun t => if t < k then dv xs t else 0
theorem prd_len (xs : List Int) (k : Nat) : (prd xs k).length = 16 := by simp [prd]
theorem gb_prd (xs : List Int) (k t : Nat) (h : t < 16) : gb (prd xs k) t = if t < k then dv xs t else 0 := range_gbT _ _ _ h
theorem prd_zero (xs : List Int) : prd xs 0 = z16 := rfl
theorem prd_set (xs : List Int) (k : Nat) : (prd xs k).set k (dv xs k) = prd xs (k + 1) := ext_gb (by simp [prd]) fun t ht => by
  rw [List.length_set, prd_len] at ht
  rw [gb_setT _ _ _ _ (by rw [prd_len]; exact ht), gb_prd _ _ _ ht, gb_prd _ _ _ ht]
  by_cases e : k = t
  · subst e; simp
  · rw [if_neg e]
    by_cases h : t < k
    · rw [if_pos h, if_pos (by omega)]
    · rw [if_neg h, if_neg (by omega)]
theorem prd_end (xs : List Int) (hx : B16 xs) : (prd xs 16).set 0 (xr (dv xs 0) (gb xs 15 / 128 * 135)) = bt16 (td (nm16 xs)) := ext_gb (by rw [List.length_set, prd_len, bt16_len]) fun t ht => by
  rw [List.length_set, prd_len] at ht
  rw [gb_setT _ _ _ _ (by rw [prd_len]; exact ht), gb_prd _ _ _ ht]
  by_cases e : 0 = t
  · subst e; rw [if_pos rfl, td_byte0 xs hx]
  · rw [if_neg e, if_pos ht, td_byte xs hx t (by omega) ht]

set_option linter.unusedSimpArgs false in
set_option maxRecDepth 20000 in
set_option maxHeartbeats 4000000 in
theorem tdbl_any (xs : List Int) (w : World) (hx : B16 xs) :
    Calls Tryd.prog 103 #[.agg (ints .u8 xs)] w fun e w' => e = .returned (.agg (ints .u8 (bt16 (td (nm16 xs))))) ∧ Below w.heap.size w w' := by
  have HX : Hid (B16 xs) := hx
  have HE : Hid ((prd xs 16).set 0 (xr (dv xs 0) (gb xs 15 / 128 * 135)) = bt16 (td (nm16 xs)) ∧ (bt16 (td (nm16 xs))).length = 16) := ⟨prd_end xs hx, bt16_len _⟩
  generalize bt16 (td (nm16 xs)) = zs at *
  clear hx
  go_enter Tryd.func103, Tryd.ntmps103
  go_wp2_with (first
    | (have q2 := s2; refine new_lawF _ rfl 123 rfl .u8 z16 z_poly ?_; intro w3 A3 B3 s3; have HA3 : Hid (Ar w3 w2.heap.size 0 .u8 z16) := A3; clear A3)
    | (have q1 := s1; refine new_lawF _ rfl 123 rfl .u8 z16 z_poly ?_; intro w2 A2 B2 s2; have HA2 : Hid (Ar w2 w1.heap.size 0 .u8 z16) := A2; clear A2)
    | (refine box_lawF _ rfl (.tmp 0) 123 rfl .u8 xs rfl ?_; intro w1 A1 B1 s1; have HA1 : Hid (Ar w1 w.heap.size 0 .u8 xs) := A1; clear A1)
    | (refine load_law _ rfl (.tmp 1) 123 rfl .u8 xs w.heap.size 0 rfl ((HA1.out.below B2 s1).below B3 (by omega)) 16 5 Tryd.underlying123 i_poly HX.out.1 ?_))
  have D1 : Hid (Ar w3 w1.heap.size 0 .u8 z16) := HA2.out.below B3 s2
  have BW : Below w.heap.size w w3 := (B1.trans (B2.mono (by omega))).trans (B3.mono (by omega))
  have o3 : w2.heap.size < w3.heap.size := s3
  have o2 : w1.heap.size < w2.heap.size := s2
  have o1 : w.heap.size < w1.heap.size := s1
  generalize hg0 : w.heap.size = g0 at *
  generalize w2.heap.size = g2 at *
  generalize w1.heap.size = g1 at *
  go_loopw [4, 8] (fun c i wr => ∃ k : Nat, k ≤ 16 ∧ i = .int .i64 k ∧ c = .int .u8 (ah xs k / 128) ∧ Ar wr g2 0 .u8 (prd xs k) ∧ Ar wr g1 0 .u8 z16 ∧ Below g0 w wr) (fun _ i _ => 16 - (intOf i).toNat)
  case atStart => exact ⟨0, Nat.zero_le _, rfl, rfl, by rw [prd_zero]; exact HA3.out, D1.out, BW⟩
  case round =>
    obtain ⟨k, hk, rfl, rfl, hA, hR, hB⟩ := hrel
    obtain ⟨wa, rfl⟩ : ∃ wx, wx = wr := ⟨_, rfl⟩
    have k0 : (0 : Int) ≤ (k : Int) := by omega
    have q1 : IntKind.i64.wrap (k : Int) = k := by rw [IntKind.wrap_i64]; omega
    by_cases hlt : k < 16
    · have k1 : (k : Int) < 16 := by omega
      have c3 := hA.cell0 k (by rw [prd_len]; omega)
      have c4 := hA.free0 k (by rw [prd_len]; omega)
      have hz := or_dv xs HX.out.2 k
      have bx := HX.out.2 k
      have bc := ah_bd xs HX.out.2 k
      have HN : Hid (ah xs (k + 1) = gb xs k) := by show _ = _; simp [ah]
      have hA2 : Hid (Ar (wa.setCell ⟨g2, k, none⟩ (.int .u8 (dv xs k))) g2 0 .u8 (prd xs (k + 1))) := by
        have h := hA.set0 k (by rw [prd_len]; omega) (dv xs k)
        rw [prd_set] at h
        exact h
      have hR2 : Hid (Ar (wa.setCell ⟨g2, k, none⟩ (.int .u8 (dv xs k))) g1 0 .u8 z16) := hR.other (by show g1 ≠ g2; omega) _
      have hB2 : Hid (Below g0 w (wa.setCell ⟨g2, k, none⟩ (.int .u8 (dv xs k)))) := hB.setCell (by show g0 ≤ g2; omega) _
      clear hA hR hB
      have HG : Hid (gb xs k = gb xs k) := rfl
      obtain ⟨x, hx⟩ : ∃ x, x = gb xs k := ⟨_, rfl⟩
      have HGX : Hid (x = gb xs k) := hx
      rw [← hx] at hz bx HN
      clear hx HG
      generalize dv xs k = z at *
      generalize gb (prd xs k) k = y at *
      obtain ⟨c, hc⟩ : ∃ c, c = ah xs k := ⟨_, rfl⟩
      rw [← hc] at hz bc ⊢
      clear hc
      go_wp2_with (refine idx16 _ rfl (.tmp 7) (.tmp 8) rfl xs _ k rfl rfl rfl HX.out.1 hlt x HGX.out ?_)
      go_roundw
      case rel => exact ⟨k + 1, by omega, by go_num, by rw [HN.out], hA2.out, hR2.out, hB2.out⟩
      case measure => simp [intOf]; omega
    · have hk16 : k = 16 := by omega
      subst hk16
      have c3 := hA.cell0 0 (by rw [prd_len]; omega)
      have c4 := hA.free0 0 (by rw [prd_len]; omega)
      rw [gb_prd _ _ _ (by omega), if_pos (by omega)] at c3
      have b15 := HX.out.2 15
      have bd : 0 ≤ dv xs 0 ∧ dv xs 0 ≤ 255 := by
        have := dN_lt (gb xs 0).toNat (ah xs 0).toNat (by have := ah_bd xs HX.out.2 0; omega)
        unfold dv; omega
      have e16 : ah xs 16 = gb xs 15 := by simp [ah]
      rw [e16]
      have hc : gb xs 15 / 128 = 0 ∨ gb xs 15 / 128 = 1 := by omega
      have hxr := xr_of (dv xs 0) (gb xs 15 / 128 * 135) bd (by omega)
      have hA2 : Hid (Ar (wa.setCell ⟨g2, 0, none⟩ (.int .u8 (xr (dv xs 0) (gb xs 15 / 128 * 135)))) g2 0 .u8 zs) := by
        have h := hA.set0 0 (by rw [prd_len]; omega) (xr (dv xs 0) (gb xs 15 / 128 * 135))
        rw [HE.out.1] at h
        exact h
      have hR2 : Hid (Ar (wa.setCell ⟨g2, 0, none⟩ (.int .u8 (xr (dv xs 0) (gb xs 15 / 128 * 135)))) g1 0 .u8 z16) := hR.other (by show g1 ≠ g2; omega) _
      have hB2 : Hid (Below g0 w (wa.setCell ⟨g2, 0, none⟩ (.int .u8 (xr (dv xs 0) (gb xs 15 / 128 * 135))))) := hB.setCell (by show g0 ≤ g2; omega) _
      have HZL : Hid (zs.length = 16) := HE.out.2
      clear hA hR hB HE e16 b15
      generalize xr (dv xs 0) (gb xs 15 / 128 * 135) = z at *
      generalize dv xs 0 = d at *
      generalize gb xs 15 / 128 = c at *
      have hm : c * 135 % 256 = c * 135 := by omega
      go_wp2_with (first
        | (refine load_law _ rfl (.tmp 3) 123 rfl .u8 zs g2 0 rfl hA2.out 16 5 Tryd.underlying123 i_poly HZL.out ?_)
        | (refine store_lawF _ rfl (.tmp 2) (.tmp 27) 123 rfl .u8 z16 zs g1 rfl rfl hR2.out 16 i_poly z16_len HZL.out ?_; intro w7 A7 B7))
      refine bodyPost_ret (v := .agg (ints .u8 zs)) (results_ar rfl _ _ g1 0 .u8 zs rfl A7 16 5 Tryd.underlying123 i_poly HZL.out) rfl ⟨rfl, ?_⟩
      rw [hg0]
      exact hB2.out.trans (B7.mono (by omega))
end Go.Proofs.YtbkaecjkgjkheaaDoor.tw

/- What twice's plus and times (of polynomials) answer. No claim of its own. -/
namespace Go.Proofs.YtbkaecjkgjkheaaDoor.tw
open Go.RowKit
set_option maxRecDepth 20000

/-- the first n bytes are xored -/
def prx (xs ys : List Int) (n : Nat) : List Int := (List.range 16).map fun t => if t < n then xr (gb xs t) (gb ys t) else gb xs t
theorem prx_len (xs ys : List Int) (n : Nat) : (prx xs ys n).length = 16 := by simp [prx]
theorem gb_prx (xs ys : List Int) (n t : Nat) (h : t < 16) : gb (prx xs ys n) t = if t < n then xr (gb xs t) (gb ys t) else gb xs t := range_gbT _ _ _ h
theorem prx_zero (xs ys : List Int) (h : xs.length = 16) : prx xs ys 0 = xs := ext_gb (by rw [prx_len, h]) fun t ht => by
  rw [prx_len] at ht
  rw [gb_prx _ _ _ _ ht, if_neg (by omega)]
theorem prx_end (xs ys : List Int) (h : xs.length = 16) (h' : ys.length = 16) : prx xs ys 16 = xorl xs ys := ext_gb (by rw [prx_len, xorl_len _ _ (by omega), h]) fun t ht => by
  rw [prx_len] at ht
  rw [gb_prx _ _ _ _ ht, if_pos ht, xorl_gb _ _ (by omega) _ (by omega)]
theorem prx_set (xs ys : List Int) (n : Nat) : (prx xs ys n).set n (xr (gb xs n) (gb ys n)) = prx xs ys (n + 1) := ext_gb (by simp [prx]) fun t ht => by
  rw [List.length_set, prx_len] at ht
  rw [gb_setT _ _ _ _ (by rw [prx_len]; exact ht), gb_prx _ _ _ _ ht, gb_prx _ _ _ _ ht]
  by_cases e : n = t
  · subst e; simp
  · rw [if_neg e]
    by_cases h : t < n
    · rw [if_pos h, if_pos (by omega)]
    · rw [if_neg h, if_neg (by omega)]
theorem xor_bt (m n : Nat) (hm : m < 2 ^ 128) (hn : n < 2 ^ 128) : xorl (bt16 m) (bt16 n) = bt16 (m ^^^ n) := by
  have hl : (bt16 m).length = (bt16 n).length := by rw [bt16_len, bt16_len]
  refine nm_only _ _ ⟨by rw [xorl_len _ _ hl, bt16_len], xorl_all _ _ hl (bt16_all m) (bt16_all n)⟩ (bt16_b _) ?_
  rw [nm_xor _ _ (bt16_b m) (bt16_b n), nm_bt m hm, nm_bt n hn, nm_bt _ (xor_lt128 m n hm hn)]

/-! ### by numbers -/
theorem pdbl_any (n : Nat) (w : World) (hn : n < 2 ^ 128) :
    Calls Tryd.prog 103 #[.agg (ints .u8 (bt16 n))] w fun e w' => e = .returned (.agg (ints .u8 (bt16 (td n)))) ∧ Below w.heap.size w w' := by
  have := tdbl_any (bt16 n) w (bt16_b n)
  rwa [nm_bt n hn] at this

theorem bt16_zero : bt16 0 = z16 := by decide

/-- a byte's bit, as the program asks for it -/
theorem ask_bit : ∀ b : Nat, b < 256 → ∀ j : Nat, j < 8 → bits .and .u8 ((b : Int) / 2 ^ j) 1 = if b.testBit j then 1 else 0 := by decide +kernel
end Go.Proofs.YtbkaecjkgjkheaaDoor.tw

/- What twice's times of polynomials answers. No claim of its own. -/
namespace Go.Proofs.YtbkaecjkgjkheaaDoor.tw
open Go.RowKit
set_option maxRecDepth 20000

section
variable {ops : Array Oper} {rest : List Oper} {o : Oper} {a : Act} {Q : Exit → Act → World → Prop}
/-- a whole array is written; what lies in other blocks stays -/
theorem store_lawK (w : World) (hg : o.guard = none) (x y : Operand) (t : TypeId) (hop : o.op = Op.store t x y) (k : IntKind) (xs ys : List Int) (b : Nat) (hx : a.eval x = .pointer (some ⟨b, 0, none⟩)) (hy : a.eval y = .agg (ints k ys))
    (hA : Ar w b 0 k xs) (n : Nat) (hi : (Tryd.prog.info? t).map (·.size) = some n) (hl : xs.length = n) (hn : ys.length = n)
    (hK : ∀ w', Ar w' b 0 k ys → Below b w w' → (∀ b' o' k' zs, b' ≠ b → Ar w b' o' k' zs → Ar w' b' o' k' zs) → wpList Tryd.prog ops Q rest (a.put o.dst undef) w') :
    wpList Tryd.prog ops Q (o :: rest) a w := by
  have ht : w.there b 0 ys.length := by rw [hn, ← hl]; exact hA.2
  exact store_law w hg x y t hop k ys b 0 hx hy ht n hi hn (hK _ (Ar.whole ht) (below_cells _ (Nat.le_refl _) _ _ (Below.refl _ _)) fun b' o' k' zs hb h => h.apart b 0 _ (Or.inl hb))
end
end Go.Proofs.YtbkaecjkgjkheaaDoor.tw

/- What twice's Times, Double and Mul answer. No claim of its own. -/
namespace Go.Proofs.YtbkaecjkgjkheaaDoor.tw
open Go.RowKit
set_option maxRecDepth 20000
end Go.Proofs.YtbkaecjkgjkheaaDoor.tw

