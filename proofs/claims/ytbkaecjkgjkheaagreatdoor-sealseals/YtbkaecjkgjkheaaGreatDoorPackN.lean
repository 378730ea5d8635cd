/- Texts put together (a claim holds few files). No claim of its own. -/
import Derived.Test.YtbkaecjkgjkheaaGreatDoorPackA
import Derived.Test.YtbkaecjkgjkheaaGreatDoorPackB
import Derived.Test.YtbkaecjkgjkheaaGreatDoorPackC
import Derived.Laws.AppendOwnNone
import Derived.Test.YtbkaecjkgjkheaaGreatDoorPackH
/- Lists of bytes as rows of bits: a bit more, a bit less, all of two. No claim of its own. -/
namespace Go.Proofs.YtbkaecjkgjkheaaGreatDoor.fa
open Go.RowKit
set_option maxRecDepth 20000

/-- a bit as a number -/
def bn (b : Bool) : Nat := if b then 1 else 0
/-- the byte of the bits 8 j .. 8 j + 7 -/
def wt (c : Nat → Bool) (j : Nat) : Nat := bn (c (8 * j)) + 2 * bn (c (8 * j + 1)) + 4 * bn (c (8 * j + 2)) + 8 * bn (c (8 * j + 3)) + 16 * bn (c (8 * j + 4)) + 32 * bn (c (8 * j + 5)) + 64 * bn (c (8 * j + 6)) + 128 * bn (c (8 * j + 7))
theorem bn_le (b : Bool) : bn b ≤ 1 := by cases b <;> simp [bn]
theorem wt_lt (c : Nat → Bool) (j : Nat) : wt c j < 256 := by
  unfold wt
  have := bn_le (c (8 * j)); have := bn_le (c (8 * j + 1)); have := bn_le (c (8 * j + 2)); have := bn_le (c (8 * j + 3))
  have := bn_le (c (8 * j + 4)); have := bn_le (c (8 * j + 5)); have := bn_le (c (8 * j + 6)); have := bn_le (c (8 * j + 7))
  omega
theorem wt_congr {c d : Nat → Bool} {j : Nat} (h : ∀ t, t < 8 → c (8 * j + t) = d (8 * j + t)) : wt c j = wt d j := by
  unfold wt
  have h0 := h 0 (by omega); have h1 := h 1 (by omega); have h2 := h 2 (by omega); have h3 := h 3 (by omega)
  have h4 := h 4 (by omega); have h5 := h 5 (by omega); have h6 := h 6 (by omega); have h7 := h 7 (by omega)
  rw [Nat.add_zero] at h0
  rw [h0, h1, h2, h3, h4, h5, h6, h7]
/-- bit t of a byte -/
def bit (b t : Nat) : Bool := decide (b / 2 ^ t % 2 = 1)
theorem bn_bit (b t : Nat) : bn (bit b t) = b / 2 ^ t % 2 := by
  unfold bit bn
  by_cases h : b / 2 ^ t % 2 = 1
  · simp [h]
  · simp [h]; omega
theorem bits_sum : ∀ b, b < 256 → b / 2 ^ 0 % 2 + 2 * (b / 2 ^ 1 % 2) + 4 * (b / 2 ^ 2 % 2) + 8 * (b / 2 ^ 3 % 2) + 16 * (b / 2 ^ 4 % 2) + 32 * (b / 2 ^ 5 % 2) + 64 * (b / 2 ^ 6 % 2) + 128 * (b / 2 ^ 7 % 2) = b := by decide +kernel
/-- a byte is the one of its bits -/
theorem byte_bits (b : Nat) (h : b < 256) (c : Nat → Bool) (j : Nat) (hc : ∀ t, t < 8 → c (8 * j + t) = bit b t) : wt c j = b := by
  have e : ∀ t, t < 8 → bn (c (8 * j + t)) = b / 2 ^ t % 2 := fun t ht => by rw [hc t ht, bn_bit]
  have h0 := e 0 (by omega); have h1 := e 1 (by omega); have h2 := e 2 (by omega); have h3 := e 3 (by omega)
  have h4 := e 4 (by omega); have h5 := e 5 (by omega); have h6 := e 6 (by omega); have h7 := e 7 (by omega)
  rw [Nat.add_zero] at h0
  unfold wt
  rw [h0, h1, h2, h3, h4, h5, h6, h7]
  exact bits_sum b h
/-- the bits of a byte are those it was made of -/
theorem bit_wt (c : Nat → Bool) (j t : Nat) (ht : t < 8) : bit (wt c j) t = c (8 * j + t) := by
  have b0 := bn_le (c (8 * j)); have b1 := bn_le (c (8 * j + 1)); have b2 := bn_le (c (8 * j + 2)); have b3 := bn_le (c (8 * j + 3))
  have b4 := bn_le (c (8 * j + 4)); have b5 := bn_le (c (8 * j + 5)); have b6 := bn_le (c (8 * j + 6)); have b7 := bn_le (c (8 * j + 7))
  have key : bn (bit (wt c j) t) = bn (c (8 * j + t)) := by
    rw [bn_bit]
    unfold wt
    have : t = 0 ∨ t = 1 ∨ t = 2 ∨ t = 3 ∨ t = 4 ∨ t = 5 ∨ t = 6 ∨ t = 7 := by omega
    rcases this with rfl | rfl | rfl | rfl | rfl | rfl | rfl | rfl <;> simp only [Nat.reducePow, Nat.add_zero] <;> omega
  revert key
  cases bit (wt c j) t <;> cases c (8 * j + t) <;> simp [bn]

/-- n bytes of bits -/
def ofb (n : Nat) (c : Nat → Bool) : List Int := (List.range n).map fun j => ((wt c j : Nat) : Int)
theorem ofb_len (n : Nat) (c : Nat → Bool) : (ofb n c).length = n := by simp [ofb]
theorem ofb_gb (n : Nat) (c : Nat → Bool) (j : Nat) (h : j < n) : gb (ofb n c) j = ((wt c j : Nat) : Int) := by simp [gb, List.getD, ofb, h]
theorem ofb_all (n : Nat) (c : Nat → Bool) : AllB (ofb n c) := allB_mem fun x hx => by
  obtain ⟨j, _, rfl⟩ := List.mem_map.1 hx
  have := wt_lt c j
  omega
/-- bit i of bytes -/
def hs (xs : List Int) (i : Nat) : Bool := bit (gb xs (i / 8)).toNat (i % 8)
theorem hs_at (xs : List Int) (j t : Nat) (ht : t < 8) : hs xs (8 * j + t) = bit (gb xs j).toNat t := by
  unfold hs
  rw [show (8 * j + t) / 8 = j by omega, show (8 * j + t) % 8 = t by omega]
theorem hs_ofb (n : Nat) (c : Nat → Bool) (i : Nat) (h : i < 8 * n) : hs (ofb n c) i = c i := by
  unfold hs
  rw [ofb_gb n c (i / 8) (by omega), Int.toNat_natCast, bit_wt c (i / 8) (i % 8) (by omega), show 8 * (i / 8) + i % 8 = i by omega]
/-- bytes are those of their bits -/
theorem ofb_hs (xs : List Int) (h : AllB xs) (c : Nat → Bool) (hc : ∀ i, i < 8 * xs.length → c i = hs xs i) : ofb xs.length c = xs := by
  refine ext_gb (ofb_len _ _) fun j hj => ?_
  rw [ofb_len] at hj
  have hb := h j
  rw [ofb_gb _ _ j hj, byte_bits (gb xs j).toNat (by omega) c j fun t ht => by rw [hc _ (by omega), hs_at xs j t ht]]
  omega
theorem ofb_congr (n : Nat) {c d : Nat → Bool} (h : ∀ i, i < 8 * n → c i = d i) : ofb n c = ofb n d := by
  refine ext_gb (by rw [ofb_len, ofb_len]) fun j hj => ?_
  rw [ofb_len] at hj
  rw [ofb_gb n c j hj, ofb_gb n d j hj, wt_congr fun t ht => h _ (by omega)]
theorem ofb_inj (n : Nat) {c d : Nat → Bool} (h : ofb n c = ofb n d) (i : Nat) (hi : i < 8 * n) : c i = d i := by rw [← hs_ofb n c i hi, h, hs_ofb n d i hi]

/-! ### one bit -/
theorem bn_up {c d : Nat → Bool} {i k : Nat} (hk : c k = false) (hd : d k = true) (h : ∀ i, i ≠ k → d i = c i) : bn (d i) = bn (c i) + if i = k then 1 else 0 := by
  by_cases e : i = k
  · subst e; rw [hk, hd, if_pos rfl]; rfl
  · rw [h i e, if_neg e]; rfl
theorem wt_up {c d : Nat → Bool} {k : Nat} (hk : c k = false) (hd : d k = true) (h : ∀ i, i ≠ k → d i = c i) (j : Nat) : wt d j = wt c j + if j = k / 8 then 2 ^ (k % 8) else 0 := by
  unfold wt
  rw [bn_up (i := 8 * j) hk hd h, bn_up (i := 8 * j + 1) hk hd h, bn_up (i := 8 * j + 2) hk hd h, bn_up (i := 8 * j + 3) hk hd h, bn_up (i := 8 * j + 4) hk hd h, bn_up (i := 8 * j + 5) hk hd h, bn_up (i := 8 * j + 6) hk hd h, bn_up (i := 8 * j + 7) hk hd h]
  by_cases e : j = k / 8
  · rw [if_pos e]
    have : k % 8 = 0 ∨ k % 8 = 1 ∨ k % 8 = 2 ∨ k % 8 = 3 ∨ k % 8 = 4 ∨ k % 8 = 5 ∨ k % 8 = 6 ∨ k % 8 = 7 := by omega
    rcases this with q | q | q | q | q | q | q | q <;> rw [q] <;> simp only [Nat.reducePow]
    · rw [if_pos (by omega), if_neg (by omega), if_neg (by omega), if_neg (by omega), if_neg (by omega), if_neg (by omega), if_neg (by omega), if_neg (by omega)]; omega
    · rw [if_neg (by omega), if_pos (by omega), if_neg (by omega), if_neg (by omega), if_neg (by omega), if_neg (by omega), if_neg (by omega), if_neg (by omega)]; omega
    · rw [if_neg (by omega), if_neg (by omega), if_pos (by omega), if_neg (by omega), if_neg (by omega), if_neg (by omega), if_neg (by omega), if_neg (by omega)]; omega
    · rw [if_neg (by omega), if_neg (by omega), if_neg (by omega), if_pos (by omega), if_neg (by omega), if_neg (by omega), if_neg (by omega), if_neg (by omega)]; omega
    · rw [if_neg (by omega), if_neg (by omega), if_neg (by omega), if_neg (by omega), if_pos (by omega), if_neg (by omega), if_neg (by omega), if_neg (by omega)]; omega
    · rw [if_neg (by omega), if_neg (by omega), if_neg (by omega), if_neg (by omega), if_neg (by omega), if_pos (by omega), if_neg (by omega), if_neg (by omega)]; omega
    · rw [if_neg (by omega), if_neg (by omega), if_neg (by omega), if_neg (by omega), if_neg (by omega), if_neg (by omega), if_pos (by omega), if_neg (by omega)]; omega
    · rw [if_neg (by omega), if_neg (by omega), if_neg (by omega), if_neg (by omega), if_neg (by omega), if_neg (by omega), if_neg (by omega), if_pos (by omega)]; omega
  · rw [if_neg e, if_neg (by omega), if_neg (by omega), if_neg (by omega), if_neg (by omega), if_neg (by omega), if_neg (by omega), if_neg (by omega), if_neg (by omega)]
    omega
/-- a bit more: d is c with bit k besides -/
theorem ofb_up (n : Nat) {c d : Nat → Bool} {k : Nat} (hk : c k = false) (hd : d k = true) (h : ∀ i, i ≠ k → d i = c i) : (ofb n c).set (k / 8) (gb (ofb n c) (k / 8) + ((2 ^ (k % 8) : Nat) : Int)) = ofb n d := by
  refine ext_gb (by rw [List.length_set, ofb_len, ofb_len]) fun j hj => ?_
  rw [List.length_set, ofb_len] at hj
  rw [ofb_gb n d j hj, wt_up hk hd h j]
  by_cases e : j = k / 8
  · subst e
    rw [if_pos rfl, ofb_gb n c _ hj]
    simp [gb, List.getD, ofb_len, hj]
  · rw [if_neg e, Nat.add_zero, ← ofb_gb n c j hj]
    simp [gb, List.getD, Ne.symm e]
/-- a bit less: c is d without bit k -/
theorem ofb_down (n : Nat) {c d : Nat → Bool} {k : Nat} (hn : k < 8 * n) (hk : c k = false) (hd : d k = true) (h : ∀ i, i ≠ k → d i = c i) : (ofb n d).set (k / 8) (gb (ofb n d) (k / 8) - ((2 ^ (k % 8) : Nat) : Int)) = ofb n c ∧ ((2 ^ (k % 8) : Nat) : Int) ≤ gb (ofb n d) (k / 8) := by
  have W := wt_up hk hd h
  generalize 2 ^ (k % 8) = q at *
  refine ⟨?_, ?_⟩
  · refine ext_gb (by rw [List.length_set, ofb_len, ofb_len]) fun j hj => ?_
    rw [List.length_set, ofb_len] at hj
    rw [ofb_gb n c j hj]
    have w := W j
    by_cases e : j = k / 8
    · subst e
      rw [if_pos rfl] at w
      rw [ofb_gb n d _ hj]
      simp [gb, List.getD, ofb_len, hj]
      omega
    · rw [if_neg e, Nat.add_zero] at w
      rw [← w, ← ofb_gb n d j hj]
      simp [gb, List.getD, Ne.symm e]
  · rw [ofb_gb n d _ (by omega)]
    have w := W (k / 8)
    rw [if_pos rfl] at w
    omega

/-! ### all of two -/
theorem bit_test (b t : Nat) : bit b t = b.testBit t := by rw [Nat.testBit_eq_decide_div_mod_eq]; rfl
theorem and_wt (a b : Nat) (ha : a < 256) (c : Nat → Bool) (j : Nat) (hc : ∀ t, t < 8 → c (8 * j + t) = (bit a t && bit b t)) : a &&& b = wt c j := by
  refine (byte_bits (a &&& b) (Nat.lt_of_le_of_lt Nat.and_le_left ha) c j fun t ht => ?_).symm
  rw [hc t ht, bit_test, bit_test, bit_test, Nat.testBit_and]
/-- the bytes of 'a & b' -/
theorem ands_ofb (xs ys : List Int) (hx : AllB xs) (j : Nat) : (((gb xs j).toNat &&& (gb ys j).toNat : Nat) : Int) = ((wt (fun i => hs xs i && hs ys i) j : Nat) : Int) := by
  have hb := hx j
  rw [and_wt (gb xs j).toNat (gb ys j).toNat (by omega) (fun i => hs xs i && hs ys i) j fun t ht => by rw [hs_at xs j t ht, hs_at ys j t ht]]

/-! ### what a mask says -/
/-- bit i of a mask that is bytes again and again -/
def mk (m : List Int) (i : Nat) : Bool := m.length == 0 || bit (gb m (i / 8 % m.length)).toNat (i % 8)
/-- which bits a program was to clear -/
def due (was tz : List Int) (i : Nat) : Bool := hs was i && !hs tz i
/-- which bits are there behind a program that is torn -/
def torn (was tz m : List Int) (i : Nat) : Bool := hs was i && !(due was tz i && mk m i)
/-- i is the last of the first n bits that was to be cleared -/
def isLast (was tz : List Int) (n i : Nat) : Prop := i < n ∧ due was tz i = true ∧ ∀ k, k < n → i < k → due was tz k = false
/-- the last of the first n bits that was to be cleared, and one; nought: there is none -/
def lst (was tz : List Int) : Nat → Nat
  | 0 => 0
  | n + 1 => if due was tz n then n + 1 else lst was tz n
theorem lst_le (was tz : List Int) (n : Nat) : lst was tz n ≤ n := by
  induction n with
  | zero => exact Nat.le_refl _
  | succ n ih =>
    unfold lst
    split <;> omega
theorem lst_due (was tz : List Int) (n : Nat) (h : 0 < lst was tz n) : due was tz (lst was tz n - 1) = true := by
  induction n with
  | zero => simp [lst] at h
  | succ n ih =>
    unfold lst at h ⊢
    by_cases e : due was tz n = true
    · rw [if_pos e, Nat.add_sub_cancel]; exact e
    · rw [if_neg e] at h ⊢
      exact ih h
theorem lst_past (was tz : List Int) (n k : Nat) (hk : k < n) (h : lst was tz n ≤ k) : due was tz k = false := by
  induction n with
  | zero => omega
  | succ n ih =>
    unfold lst at h
    by_cases e : due was tz n = true
    · rw [if_pos e] at h; omega
    · rw [if_neg e] at h
      by_cases q : k = n
      · subst q; simpa using e
      · exact ih (by omega) h
/-- which bits are there behind a program that fails -/
def failed (was tz m : List Int) (n i : Nat) : Bool := hs was i && !(due was tz i && mk m i && !(i + 1 == lst was tz n))
/-- programs only clear -/
theorem torn_sub (was tz m : List Int) (i : Nat) : (torn was tz m i && hs was i) = torn was tz m i := by unfold torn; cases hs was i <;> simp
theorem failed_sub (was tz m : List Int) (n i : Nat) : (failed was tz m n i && hs was i) = failed was tz m n i := by unfold failed; cases hs was i <;> simp
/-- with an empty mask all is done -/
theorem torn_whole (was tz : List Int) (i : Nat) : torn was tz [] i = (hs was i && hs tz i) := by unfold torn due mk; cases hs was i <;> cases hs tz i <;> simp
/-- one that fails does all only where there is nothing to do -/
theorem failed_whole (was tz m : List Int) (n : Nat) : (∀ i, i < n → failed was tz m n i = (hs was i && hs tz i)) ↔ ∀ i, i < n → hs was i = (hs was i && hs tz i) := by
  constructor
  · intro h
    have hz : lst was tz n = 0 := by
      rcases Nat.eq_zero_or_pos (lst was tz n) with q | q
      · exact q
      · have hd := lst_due was tz n q
        have hle := lst_le was tz n
        have := h (lst was tz n - 1) (by omega)
        unfold failed at this
        rw [show lst was tz n - 1 + 1 = lst was tz n by omega] at this
        unfold due at hd this
        revert hd this
        cases hs was (lst was tz n - 1) <;> cases hs tz (lst was tz n - 1) <;> simp
    intro i hi
    have := lst_past was tz n i hi (by omega)
    unfold due at this
    revert this
    cases hs was i <;> cases hs tz i <;> simp
  · intro h i hi
    have := h i hi
    unfold failed due
    revert this
    cases hs was i <;> cases hs tz i <;> simp
/-- which bits are there behind an erase that is torn -/
def erased (was m : List Int) (i : Nat) : Bool := hs was i || mk m i
theorem erased_sup (was m : List Int) (i : Nat) : (erased was m i && hs was i) = hs was i := by unfold erased; cases hs was i <;> simp
theorem erased_whole (was : List Int) (i : Nat) : erased was [] i = true := by unfold erased mk; cases hs was i <;> simp
theorem ofb_full (n : Nat) (c : Nat → Bool) (h : ∀ i, i < 8 * n → c i = true) : ofb n c = List.replicate n 255 := by
  refine ext_gb (by rw [ofb_len, List.length_replicate]) fun j hj => ?_
  rw [ofb_len] at hj
  rw [ofb_gb n c j hj]
  have e : wt c j = 255 := by
    rw [wt_congr (d := fun _ => true) fun t ht => h _ (by omega)]
    rfl
  rw [e]
  simp [gb, List.getD, hj]
end Go.Proofs.YtbkaecjkgjkheaaGreatDoor.fa

/- What a mask says of a bit: fault's closure over a mask and Bit, and the reference's power, Has and Bit. No claim of its own. -/
namespace Go.Proofs.YtbkaecjkgjkheaaGreatDoor.fa
open Go.RowKit
set_option maxRecDepth 20000

theorem byt_drawn {w : World} {v : Value} {xs : List Int} (h : Byt w v xs) (m : Nat) : Byt (w.drewN m) v xs := h
theorem below_drawn {B : Nat} {w w' : World} (h : Below B w w') (n : Nat) : Below B w (w'.drewN n) := ⟨h.os, h.tape, h.output, h.size, h.block⟩

/-- a variable: one value has a place of its own at c -/
def Var (w : World) (c : Nat) (v : Value) : Prop := w.cell? ⟨c, 0, none⟩ = some v ∧ w.frozen? ⟨c, 0, none⟩ = false
theorem Var.new (w : World) (v : Value) (t : TypeId) : Var (w.alloc (.cells #[v] t)) w.heap.size v := ⟨World.cell?_alloc_at _ _ _ _ rfl, World.frozen?_alloc_at _ _ _ _ rfl⟩
theorem Var.lt {w : World} {c : Nat} {v : Value} (h : Var w c v) : c < w.heap.size := World.block_lt_of_cell? w _ h.1
theorem Var.below {w w' : World} {c B : Nat} {v : Value} (h : Var w c v) (hb : Below B w w') (hc : c < B) : Var w' c v := ⟨by rw [hb.cell hc]; exact h.1, by rw [hb.frozen hc]; exact h.2⟩
theorem Var.set {w : World} {c : Nat} {v : Value} (h : Var w c v) (u : Value) : Var (w.setCell ⟨c, 0, none⟩ u) c u := ⟨World.cell?_setCell_same _ _ _ h.1, by rw [World.frozen?_setCell]; exact h.2⟩
theorem byt_form {w : World} {v : Value} {xs : List Int} (h : Byt w v xs) : ∃ ao cap, v = .slice ao xs.length cap := by
  obtain ⟨ao, cap, rfl, _⟩ := h
  exact ⟨ao, cap, rfl⟩
/-- bytes last where a cell is written that is no byte -/
theorem byt_other {w : World} {v u old : Value} {xs : List Int} {p : Addr} (h : Byt w v xs) (hc : w.cell? p = some old) (ho : ∀ x, old ≠ .int .u8 x) : Byt (w.setCell p u) v xs := by
  obtain ⟨ao, cap, rfl, h1, h2, h3, h4, h5⟩ := h
  refine ⟨ao, cap, rfl, h1, h2, h3, h4, fun hp => ?_⟩
  obtain ⟨b, off, rfl, hb⟩ := h5 hp
  refine ⟨b, off, rfl, fun t ht => ?_⟩
  rw [World.cell?_setCell_other _ _ _ _ (by intro e; rw [e] at hc; rw [hb t ht] at hc; injection hc with hc; exact ho _ hc.symm)]
  exact hb t ht

/-- the bytes of a mask; of an empty one a byte of ones -/
def ms (m : List Int) : List Int := if m.length = 0 then [255] else m
theorem ms_pos (m : List Int) : 0 < (ms m).length := by
  unfold ms
  split
  · decide
  · omega
theorem ms_all {m : List Int} (h : AllB m) : AllB (ms m) := by
  unfold ms
  split
  · exact allB_mem fun x hx => by simp at hx; omega
  · exact h
/-- what a mask says of byte i -/
def mb (m : List Int) (i : Nat) : Int := gb (ms m) (i % (ms m).length)
theorem mb_bd {m : List Int} (h : AllB m) (i : Nat) : 0 ≤ mb m i ∧ mb m i ≤ 255 := ms_all h _
theorem bit255 : ∀ t, t < 8 → bit 255 t = true := by decide
theorem mb_mk (m : List Int) (i : Nat) : mk m i = bit (mb m (i / 8)).toNat (i % 8) := by
  unfold mk mb ms
  by_cases h : m.length = 0
  · rw [if_pos h, h, show [(255 : Int)].length = 1 from rfl, Nat.mod_one]
    show (true || _) = bit 255 (i % 8)
    rw [bit255 _ (by omega), Bool.true_or]
  · rw [if_neg h, show (m.length == 0) = false by simpa using h, Bool.false_or]

/-- the variable at c tells of the mask m -/
def Say (w : World) (c : Nat) (m : List Int) : Prop := ∃ sv, w.cell? ⟨c, 0, none⟩ = some sv ∧ Byt w sv (ms m)
theorem Say.lt {w : World} {c : Nat} {m : List Int} (h : Say w c m) : c < w.heap.size := by
  obtain ⟨sv, h1, _⟩ := h
  exact World.block_lt_of_cell? w _ h1
theorem Say.below {w w' : World} {c : Nat} {m : List Int} (h : Say w c m) (hb : Below w.heap.size w w') : Say w' c m := by
  have hl := h.lt
  obtain ⟨sv, h1, h2⟩ := h
  exact ⟨sv, by rw [hb.cell hl]; exact h1, h2.below hb⟩
end Go.Proofs.YtbkaecjkgjkheaaGreatDoor.fa

/- Rows of bytes of the call's own, with room behind: read, written, appended to. No claim of its own. -/
namespace Go.Proofs.YtbkaecjkgjkheaaGreatDoor.fa
open Go.RowKit
set_option maxRecDepth 20000

/-- the row g owns n bytes, and has room for cap -/
def OwnC (B : Nat) (w : World) (g n cap : Nat) (xs : List Int) : Prop := xs.length = n ∧ B ≤ g ∧ w.ownsRow B 5 1 (.slice (some ⟨g, 0, none⟩) n cap) n (xs.map (Value.int .u8))
theorem OwnC.cell {B : Nat} {w : World} {g n cap : Nat} {xs : List Int} (h : OwnC B w g n cap xs) {k : Nat} (hk : k < n) : w.cell? ⟨g, k, none⟩ = some (.int .u8 (gb xs k)) := by
  rw [h.2.2.cellAt k (by omega)]
  have := h.1
  simp [gb, List.getD, show k < xs.length by omega]
theorem OwnC.free {B : Nat} {w : World} {g n cap : Nat} {xs : List Int} (h : OwnC B w g n cap xs) (k : Nat) : w.frozen? ⟨g, k, none⟩ = false := h.2.2.frozenAt k
theorem OwnC.set {B : Nat} {w : World} {g n cap : Nat} {xs : List Int} (h : OwnC B w g n cap xs) (k : Nat) (x : Int) : OwnC B (w.setCell ⟨g, k, none⟩ (.int .u8 x)) g n cap (xs.set k x) :=
  ⟨by simpa using h.1, h.2.1, by have := (h.2.2.stored k (.int .u8 x)).1; rwa [← List.map_set] at this⟩
theorem OwnC.drewN {B : Nat} {w : World} {g n cap : Nat} {xs : List Int} (h : OwnC B w g n cap xs) (m : Nat) : OwnC B (w.drewN m) g n cap xs := h
theorem OwnC.own {B : Nat} {w : World} {g n cap : Nat} {xs : List Int} (h : OwnC B w g n cap xs) : Own B w (.slice (some ⟨g, 0, none⟩) n cap) xs := by
  have h1 := h.1
  subst h1
  exact h.2.2
theorem own_row {B : Nat} {w : World} {v : Value} {xs : List Int} (h : Own B w v xs) (hp : 0 < xs.length) : ∃ g cap, v = .slice (some ⟨g, 0, none⟩) xs.length cap ∧ OwnC B w g xs.length cap xs := by
  rcases h.2 with ⟨_, hn⟩ | ⟨g, cap, cur, rfl, hg, hr⟩
  · omega
  · exact ⟨g, cap, rfl, rfl, hg, h⟩
theorem own_drewN {B : Nat} {w : World} {v : Value} {xs : List Int} (h : Own B w v xs) (m : Nat) : Own B (w.drewN m) v xs := h

/-- 'append(s, x...)', s of the call's own -/
theorem pushs_law {ops : Array Oper} {rest : List Oper} {o : Oper} {a : Act} {Q : Exit → Act → World → Prop} (w : World) (hg : o.guard = none) (s x : Operand) (hop : o.op = .call { callee := .builtin .append, args := #[s, x], argTypes := #[22, 22] })
    (B : Nat) (hB : B ≤ w.heap.size) (v vy : Value) (xs ys : List Int) (hs : a.eval s = v) (hx : a.eval x = vy) (hown : Own B w v xs) (hy : Byt w vy ys) (hm : xs.length + ys.length ≤ 140737488355328)
    (hK : ∀ v' w', Own B w' v' (xs ++ ys) → Below B w w' → wpList Tryz.prog ops Q rest (a.put o.dst v') w') :
    wpList Tryz.prog ops Q (o :: rest) a w := by
  obtain ⟨i0, hi, hz0, hz1, hz2⟩ := info_parts info_u8
  obtain ⟨ao, cap, rfl, h1, h2, h3, h4, h5⟩ := hy
  cases ao with
  | none =>
    have hc := h4 rfl
    subst hc
    have : ys = [] := List.eq_nil_of_length_eq_zero (by omega)
    subst this
    refine wpList_append_own_none hg s x 22 hop B 5 i0 1 Tryz.underlying22 hi v xs.length _ hs hown hx (hK v w ?_ (Below.refl _ _))
    rwa [List.append_nil]
  | some ad =>
    refine wpList_append_own _ hg s x 22 hop B 5 i0 (.int .u8 0) 1 1 Tryz.underlying22 hi hz0 hz1 hz2 rfl (by decide) v xs.length _ hs hown ad ys.length cap (ys.map (Value.int .u8)) hx (by simp) ?_ ?_ (by simp only [maxLen]; omega) (by omega) hB fun v' w' h1 h2 _ => ?_
    · intro j u hj
      have hjl : j < ys.length := by have := (List.getElem?_eq_some_iff.1 hj).1; simpa using this
      obtain ⟨b, off, e, hc⟩ := h5 (by omega)
      cases e
      rw [Addr.add_mid, hc j hjl, ← hj]
      simp [gb, List.getD, hjl]
    · intro u hu
      simp only [List.mem_map] at hu
      obtain ⟨y, _, rfl⟩ := hu
      rfl
    · refine hK v' w' ?_ ?_
      · show w'.ownsRow B 5 1 v' (xs ++ ys).length ((xs ++ ys).map (Value.int .u8))
        simpa using h1
      · exact (Below.refl B w).grown h2 hB fun k hk => (World.ownsRow.lt hown k hk).1
end Go.Proofs.YtbkaecjkgjkheaaGreatDoor.fa

/- Structs of any cells in a place of their own: read, written. No claim of its own. -/
namespace Go.Proofs.YtbkaecjkgjkheaaGreatDoor.he
open Go.RowKit Go.Proofs.YtbkaecjkgjkheaaGreatDoor.fa
set_option maxRecDepth 20000

/-- a variable at c that holds the cells cs -/
def Vr (w : World) (c : Nat) (cs : List Value) : Prop := w.rangeAt c 0 cs ∧ w.there c 0 cs.length
theorem range_heap {w w' : World} {b p : Nat} {cs : List Value} (h : w.rangeAt b p cs) (e : w'.heap[b]? = w.heap[b]?) : w'.rangeAt b p cs := fun j v hv => by
  rw [World.cell?_of_block (w := w) (w' := w') (a := ⟨b, p + j, none⟩) e]; exact h j v hv
theorem there_heap {w w' : World} {b p n : Nat} (h : w.there b p n) (e : w'.heap[b]? = w.heap[b]?) : w'.there b p n := fun j hj => by
  rw [World.cell?_of_block (w := w) (w' := w') (a := ⟨b, p + j, none⟩) e, World.frozen?_of_block (w := w) (w' := w') (a := ⟨b, p + j, none⟩) e]
  exact h j hj
theorem range_lt {w : World} {b p : Nat} {cs : List Value} (h : w.rangeAt b p cs) (hp : 0 < cs.length) : b < w.heap.size := World.block_lt_of_cell? w _ (h 0 _ (List.getElem?_eq_getElem hp))
theorem Vr.heap {w w' : World} {c : Nat} {cs : List Value} (h : Vr w c cs) (e : w'.heap[c]? = w.heap[c]?) : Vr w' c cs := ⟨range_heap h.1 e, there_heap h.2 e⟩
theorem Vr.below {w w' : World} {c B : Nat} {cs : List Value} (h : Vr w c cs) (hb : Below B w w') (hc : c < B) : Vr w' c cs := h.heap (hb.block c hc)
theorem Vr.drewN {w : World} {c : Nat} {cs : List Value} (h : Vr w c cs) (n : Nat) : Vr (w.drewN n) c cs := h.heap rfl
theorem Vr.other {w : World} {c b o : Nat} {cs : List Value} (h : Vr w c cs) (u : Value) (hp : c ≠ b) : Vr (w.setCell ⟨b, o, none⟩ u) c cs := h.heap (Below.heap_setCell w ⟨b, o, none⟩ u c hp)
theorem Vr.cell {w : World} {c : Nat} {cs : List Value} (h : Vr w c cs) (j : Nat) (v : Value) (hv : cs[j]? = some v) : w.cell? ⟨c, j, none⟩ = some v := by
  have := h.1 j v hv
  rwa [Nat.zero_add] at this
theorem Vr.free {w : World} {c : Nat} {cs : List Value} (h : Vr w c cs) (j : Nat) (hj : j < cs.length) : w.frozen? ⟨c, j, none⟩ = false := by
  have := (h.2 j hj).2
  rwa [Nat.zero_add] at this
theorem Vr.set {w : World} {c : Nat} {cs : List Value} (h : Vr w c cs) (j : Nat) (hj : j < cs.length) (u : Value) : Vr (w.setCell ⟨c, j, none⟩ u) c (cs.set j u) := by
  have hc := h.cell j _ (List.getElem?_eq_getElem hj)
  refine ⟨fun i v hv => ?_, fun i hi => ?_⟩
  · rw [Nat.zero_add]
    rw [List.getElem?_set] at hv
    by_cases e : j = i
    · subst e
      rw [if_pos rfl, if_pos hj] at hv
      cases hv
      exact World.cell?_setCell_same _ _ _ hc
    · rw [if_neg e] at hv
      rw [World.cell?_setCell_other _ _ _ _ (by intro q; injection q with _ q2; omega)]
      exact h.cell i v hv
  · rw [List.length_set] at hi
    rw [Nat.zero_add]
    refine ⟨?_, by rw [World.frozen?_setCell]; exact h.free i hi⟩
    by_cases e : j = i
    · subst e
      rw [World.cell?_setCell_same _ _ _ hc]; rfl
    · rw [World.cell?_setCell_other _ _ _ _ (by intro q; injection q with _ q2; omega), h.cell i _ (List.getElem?_eq_getElem hi)]; rfl
theorem Vr.new (w : World) (t : TypeId) (cs : List Value) : Vr (w.alloc (.cells cs.toArray t)) w.heap.size cs := by
  have e := fun j => cell_of_row (w.alloc (.cells cs.toArray t)) w.heap.size j _ t (0, 0) (heap_alloc_last w _)
  refine ⟨fun j v hv => by rw [Nat.zero_add, e]; simpa using hv, fun j hj => ⟨?_, World.frozen?_alloc_at _ _ _ _ rfl⟩⟩
  rw [Nat.zero_add, e]
  simp [hj]

/-- a type of structs (or of arrays) of n cells -/
def Rowy (t : TypeId) (n : Nat) : Prop := (∃ d, Tryz.prog.underlying t = some d ∧ d.isRow = true) ∧ (Tryz.prog.info? t).map (·.size) = some n
theorem run_loadC {w : World} {b p : Nat} {t : TypeId} {cs : List Value} (ht : Rowy t cs.length) (h : w.rangeAt b p cs) : (loadVar t ⟨b, p, none⟩).run Tryz.prog w = .ok (.agg cs.toArray) w := by
  obtain ⟨⟨d, hu, hd⟩, hs⟩ := ht
  exact run_loadVar_mid (P := Tryz.prog) w b p t _ _ h hu hd hs
theorem load_cells {w : World} {b p : Nat} {t : TypeId} {cs : List Value} (ht : Rowy t cs.length) (h : w.rangeAt b p cs) : (Instr.loadAt t (.pointer (some ⟨b, p, none⟩))).run Tryz.prog w = .ok (.agg cs.toArray) w := by
  simp only [Instr.loadAt, Instr.sureAddr, Sem.run_bind, Sem.run_pure, Result.andThen_ok, run_loadC ht h]
theorem results_c {fn : Func} {p : Tmp} {t : TypeId} (h : fn.results = #[.cell p t]) (tmps : Array Value) (w : World) (b : Nat) (cs : List Value) (ht : Rowy t cs.length) (hp : tmps.getD p undef = .pointer (some ⟨b, 0, none⟩)) (ha : w.rangeAt b 0 cs) : (results fn tmps).run Tryz.prog w = .ok (.agg cs.toArray) w := by
  have hp' : tmps[p]?.getD undef = .pointer (some ⟨b, 0, none⟩) := by simpa using hp
  simp [results, h, hp', asAddr, run_loadC ht ha]
theorem results_cv {fn : Func} {p q : Tmp} {t : TypeId} (h : fn.results = #[.cell p t, .tmp q]) (tmps : Array Value) (w : World) (b : Nat) (cs : List Value) (v : Value) (ht : Rowy t cs.length) (hp : tmps.getD p undef = .pointer (some ⟨b, 0, none⟩)) (hq : tmps.getD q undef = v) (ha : w.rangeAt b 0 cs) : (results fn tmps).run Tryz.prog w = .ok (.tuple #[.agg cs.toArray, v]) w := by
  have hp' : tmps[p]?.getD undef = .pointer (some ⟨b, 0, none⟩) := by simpa using hp
  have hq' : tmps[q]?.getD undef = v := by simpa using hq
  simp [results, h, hp', hq', asAddr, run_loadC ht ha]

section
variable {ops : Array Oper} {rest : List Oper} {a : Act} {Q : Exit → Act → World → Prop}
/-- a struct gets a place -/
theorem box_lawC {d : Option Tmp} {x : Operand} {t ty : TypeId} {pos : String} {af : Array Edge} (w : World) (cs : List Value) (hx : a.eval x = .agg cs.toArray)
    (hK : ∀ w', Vr w' w.heap.size cs → Below w.heap.size w w' → w.heap.size < w'.heap.size → wpList Tryz.prog ops Q rest (a.put d (.pointer (some ⟨w.heap.size, 0, none⟩))) w') :
    wpList Tryz.prog ops Q (⟨d, Op.box t x, ty, pos, af, none⟩ :: rest) a w := by
  refine wpList_plain rfl fun K hK' => ?_
  unfold Oper.wp
  simp [execOp, hx, Instr.box, newVar, newRow, Value.cells, Result.andThen]
  exact hK' _ _ (hK _ (Vr.new w t cs) ((Below.refl _ _).alloc (Nat.le_refl _) _) (by simp))
/-- a variable for a struct -/
theorem new_lawC {d : Option Tmp} {t ty : TypeId} {pos : String} {af : Array Edge} (w : World) (cs : List Value) (hz : (Tryz.prog.info? t).map (fun i => (i.zero, i.size)) = some (some (.agg cs.toArray), cs.length))
    (hK : ∀ w', Vr w' w.heap.size cs → Below w.heap.size w w' → w.heap.size < w'.heap.size → wpList Tryz.prog ops Q rest (a.put d (.pointer (some ⟨w.heap.size, 0, none⟩))) w') :
    wpList Tryz.prog ops Q (⟨d, Op.alloc t, ty, pos, af, none⟩ :: rest) a w := by
  refine wpList_plain rfl fun K hK' => ?_
  have hz' := (zero_of_info hz).1
  unfold Oper.wp
  simp [execOp, Instr.alloc, hz', newVar, newRow, Value.cells, Result.andThen]
  exact hK' _ _ (hK _ (Vr.new w t cs) ((Below.refl _ _).alloc (Nat.le_refl _) _) (by simp))
/-- a struct is written -/
theorem store_lawC {d : Option Tmp} {x y : Operand} {t ty : TypeId} {pos : String} {af : Array Edge} (w : World) (cs : List Value) (b p : Nat) (hx : a.eval x = .pointer (some ⟨b, p, none⟩)) (hy : a.eval y = .agg cs.toArray) (ht : w.there b p cs.length) (hs : (Tryz.prog.info? t).map (·.size) = some cs.length) (h1 : ∀ v ∈ cs, v.oneCell' = true)
    (hK : ∀ w', Hid (w' = w.setCells b p cs) → w'.rangeAt b p cs → w'.there b p cs.length → Below b w w' → wpList Tryz.prog ops Q rest (a.put d undef) w') :
    wpList Tryz.prog ops Q (⟨d, Op.store t x y, ty, pos, af, none⟩ :: rest) a w := by
  refine wpList_store_mid rfl t x y rfl b p cs.toArray hx hy (by simpa using ht) (by simpa using hs) (all_oneCell_toArray h1) ?_
  exact hK _ rfl (World.rangeAt_setCells_same w b p cs ht) (World.there_setCells ht b p _) (below_cells _ (Nat.le_refl _) _ _ (Below.refl _ _))
end

theorem results_cvv {fn : Func} {p q r : Tmp} {t : TypeId} (h : fn.results = #[.cell p t, .tmp q, .tmp r]) (tmps : Array Value) (w : World) (b : Nat) (cs : List Value) (v u : Value) (ht : Rowy t cs.length) (hp : tmps.getD p undef = .pointer (some ⟨b, 0, none⟩)) (hq : tmps.getD q undef = v) (hr : tmps.getD r undef = u) (ha : w.rangeAt b 0 cs) : (results fn tmps).run Tryz.prog w = .ok (.tuple #[.agg cs.toArray, v, u]) w := by
  have hp' : tmps[p]?.getD undef = .pointer (some ⟨b, 0, none⟩) := by simpa using hp
  have hq' : tmps[q]?.getD undef = v := by simpa using hq
  have hr' : tmps[r]?.getD undef = u := by simpa using hr
  simp [results, h, hp', hq', hr', asAddr, run_loadC ht ha]

/-- a head's cells -/
def hv (k n c l e t : Int) : List Value := [.int .i64 k, .int .i64 n, .int .i64 c, .int .u32 l, .int .u64 e, .int .u64 t]
theorem rowy_head : Rowy 26 6 := ⟨⟨_, Tryz.underlying26, rfl⟩, by kernel_rfl⟩
theorem zero_head : (Tryz.prog.info? 26).map (fun i => (i.zero, i.size)) = some (some (.agg (hv 0 0 0 0 0 0).toArray), 6) := by kernel_rfl
theorem zero_nums : (Tryz.prog.info? 93).map (fun i => (i.zero, i.size)) = some (some (.agg (ints .u64 [0, 0, 0, 0, 0, 0, 0])), 7) := by kernel_rfl
theorem hv_one (k n c l e t : Int) : ∀ v ∈ hv k n c l e t, v.oneCell' = true := fun v hv' => by
  simp [hv] at hv'
  rcases hv' with rfl | rfl | rfl | rfl | rfl | rfl <;> rfl

/-- the table of sizes lies in w -/
def Tab (w : World) : Prop := ∀ i : Nat, i < 7 → w.cell? ⟨0, i, none⟩ = some (.int .i64 (gb [1, 1, 1, 1, 4, 8, 8] i))
theorem Tab.below {w w' : World} (h : Tab w) (hb : Below w.heap.size w w') : Tab w' := fun i hi => by
  have := h i hi
  rw [hb.cell (World.block_lt_of_cell? w _ this)]; exact this
theorem Tab.lt {w : World} (h : Tab w) : 0 < w.heap.size := World.block_lt_of_cell? w _ (h 0 (by omega))
theorem Tab.low {w w' : World} {B : Nat} (h : Tab w) (hB : 0 < B) (hb : Below B w w') : Tab w' := fun i hi => by
  have := h i hi
  rw [hb.cell hB]; exact this
theorem Tab.range {w : World} (h : Tab w) : w.rangeAt 0 0 (([1, 1, 1, 1, 4, 8, 8] : List Int).map (Value.int .i64)) := fun j v hv => by
  have hj : j < 7 := by have := (List.getElem?_eq_some_iff.1 hv).1; simpa using this
  have key : ∀ (l : List Int) j, j < l.length → (l.map (Value.int .i64))[j]? = some (.int .i64 (gb l j)) := fun l j h => by simp [gb, List.getD, h]
  rw [Nat.zero_add, h j hj, ← hv, key [1, 1, 1, 1, 4, 8, 8] j hj]
theorem rowy_sizes : Rowy 95 7 := ⟨⟨_, Tryz.underlying95, rfl⟩, by kernel_rfl⟩
theorem rowy_nums : Rowy 93 7 := ⟨⟨_, Tryz.underlying93, rfl⟩, by kernel_rfl⟩
/-- an array's element -/
theorem idx_law {ops : Array Oper} {rest : List Oper} {o : Oper} {a : Act} {Q : Exit → Act → World → Prop} (w : World) (hg : o.guard = none) (x y : Operand) (t : TypeId) (hop : o.op = Op.index t x y) (v i q : Value) (hx : a.eval x = v) (hy : a.eval y = i)
    (hr : (Instr.index t v i).run Tryz.prog w = .ok q w) (hK : wpList Tryz.prog ops Q rest (a.put o.dst q) w) : wpList Tryz.prog ops Q (o :: rest) a w := by
  refine wpList_plain hg fun K hK' => ?_
  unfold Oper.wp execOp
  simp only [hop, hx, hy, Sem.run_bind, Sem.run_pure, Result.andThen_ok, hr]
  exact hK' _ _ hK
end Go.Proofs.YtbkaecjkgjkheaaGreatDoor.he

/- What fault's bitsOf and Bit, and the reference's Has and Bit answer. No claim of its own. -/
namespace Go.Proofs.YtbkaecjkgjkheaaGreatDoor.fa
open Go.RowKit
set_option maxRecDepth 20000

theorem makeFn (fn : Fn) (first cap : Array Value) (w : World) : (Instr.makeFunc fn first cap).run Tryz.prog w = .ok (.func fn first cap) w := rfl
end Go.Proofs.YtbkaecjkgjkheaaGreatDoor.fa

/- What fault's Bit, and the reference's Has and Bit answer. No claim of its own. -/
namespace Go.Proofs.YtbkaecjkgjkheaaGreatDoor.fa
open Go.RowKit
set_option maxRecDepth 20000

/-- what a mask says of the bit of any number -/
def bo (m : List Int) (i : Int) : Bool := if i < 0 then false else mk m i.toNat

theorem bit_prog (x : Int) (t : Nat) (h0 : 0 ≤ x) (h1 : x ≤ 255) : (bits .and .u8 (x / 2 ^ t) 1 != 0) = bit x.toNat t := by
  obtain ⟨X, rfl⟩ := Int.eq_ofNat_of_zero_le h0
  have e : ((X : Int) / 2 ^ t) = ((X / 2 ^ t : Nat) : Int) := by rw [Int.natCast_ediv]; norm_cast
  have l : X / 2 ^ t ≤ X := Nat.div_le_self _ _
  rw [e, Int.toNat_natCast]
  have := u8_and_nat (X / 2 ^ t) 1 (by omega) (by omega)
  rw [show ((1 : Nat) : Int) = 1 from rfl] at this
  rw [this, Nat.and_one_is_mod]
  unfold bit
  by_cases q : X / 2 ^ t % 2 = 1
  · rw [q]; decide
  · rw [show X / 2 ^ t % 2 = 0 by omega]; decide
end Go.Proofs.YtbkaecjkgjkheaaGreatDoor.fa

/- What the reference's Bit and And answer. No claim of its own. -/
namespace Go.Proofs.YtbkaecjkgjkheaaGreatDoor.fa
open Go.RowKit
set_option maxRecDepth 20000

/-- 'a & b', byte by byte -/
def andl (xs ys : List Int) : List Int := (List.range xs.length).map fun k => (((gb xs k).toNat &&& (gb ys k).toNat : Nat) : Int)
theorem andl_len (xs ys : List Int) : (andl xs ys).length = xs.length := by simp [andl]
theorem andl_gb (xs ys : List Int) (k : Nat) (h : k < xs.length) : gb (andl xs ys) k = (((gb xs k).toNat &&& (gb ys k).toNat : Nat) : Int) := by simp [gb, List.getD, andl, h]
theorem andl_ofb (xs ys : List Int) (hx : AllB xs) : andl xs ys = ofb xs.length fun i => hs xs i && hs ys i := by
  refine ext_gb (by rw [andl_len, ofb_len]) fun k hk => ?_
  rw [andl_len] at hk
  rw [andl_gb xs ys k hk, ofb_gb _ _ k hk, ands_ofb xs ys hx k]
theorem andl_all (xs ys : List Int) (hx : AllB xs) : AllB (andl xs ys) := by rw [andl_ofb xs ys hx]; exact ofb_all _ _
theorem andl_take (xs ys : List Int) (k : Nat) (hk : k < xs.length) : (andl xs ys).take (k + 1) = (andl xs ys).take k ++ [gb (andl xs ys) k] := by
  rw [List.take_succ_eq_append_getElem (by rw [andl_len]; exact hk)]
  simp [gb, List.getD, show k < (andl xs ys).length by rw [andl_len]; exact hk]
end Go.Proofs.YtbkaecjkgjkheaaGreatDoor.fa

/- What fault's toClear and programmed answer. No claim of its own. -/
namespace Go.Proofs.YtbkaecjkgjkheaaGreatDoor.fa
open Go.RowKit
set_option maxRecDepth 20000

/-- the bits of byte i that a program is to clear -/
def tc (xs ys : List Int) (i : Nat) : Int := (((gb xs i).toNat &&& (255 - (gb ys i).toNat) : Nat) : Int)
theorem tc_bd (xs ys : List Int) (hx : AllB xs) (i : Nat) : 0 ≤ tc xs ys i ∧ tc xs ys i ≤ 255 := by
  have := hx i
  unfold tc
  have h : (gb xs i).toNat &&& (255 - (gb ys i).toNat) ≤ (gb xs i).toNat := Nat.and_le_left
  omega

/-- the function v tells D of the first n bytes, now and later -/
def Tells (w : World) (v : Value) (D : Nat → Int) (n : Nat) : Prop := ∃ K caps, v = .func (.func K) #[] caps ∧ (∀ (q : Array Value) (w : World), (callFunc K q).run Tryz.prog w = .ok (.enter K q) w) ∧ (∀ i, 0 ≤ D i ∧ D i ≤ 255) ∧
  ∀ w', Below w.heap.size w w' → ∀ i, i < n → Calls Tryz.prog K (#[.int .i64 i] ++ caps) w' fun e w'' => e = .returned (.int .u8 (D i)) ∧ ∃ m, w'' = w'.drewN m

/-- what is there behind a program of which D tells what is done -/
def pgl (xs ys : List Int) (D : Nat → Int) : List Int := (List.range xs.length).map fun k => (((gb xs k).toNat &&& (255 - ((tc xs ys k).toNat &&& (D k).toNat)) : Nat) : Int)
theorem pgl_len (xs ys : List Int) (D : Nat → Int) : (pgl xs ys D).length = xs.length := by simp [pgl]
theorem pgl_gb (xs ys : List Int) (D : Nat → Int) (k : Nat) (h : k < xs.length) : gb (pgl xs ys D) k = (((gb xs k).toNat &&& (255 - ((tc xs ys k).toNat &&& (D k).toNat)) : Nat) : Int) := by simp [gb, List.getD, pgl, h]
theorem pgl_all (xs ys : List Int) (D : Nat → Int) (hx : AllB xs) : AllB (pgl xs ys D) := allB_mem fun z hz => by
  obtain ⟨k, hk, rfl⟩ := List.mem_map.1 hz
  have := hx k
  have h : (gb xs k).toNat &&& (255 - ((tc xs ys k).toNat &&& (D k).toNat)) ≤ (gb xs k).toNat := Nat.and_le_left
  omega
/-- zs, filled as far as place k -/
def prt (zs : List Int) (k : Nat) : List Int := zs.take k ++ List.replicate (zs.length - k) 0
theorem prt_zero (zs : List Int) : prt zs 0 = List.replicate zs.length 0 := by simp [prt]
theorem prt_end (zs : List Int) : prt zs zs.length = zs := by simp [prt]
theorem prt_set (zs : List Int) (k : Nat) (h : k < zs.length) : (prt zs k).set k (gb zs k) = prt zs (k + 1) := by
  unfold prt
  obtain ⟨d, hd⟩ : ∃ d, zs.length - k = d + 1 := ⟨zs.length - k - 1, by omega⟩
  have e : zs.length - (k + 1) = d := by omega
  have hm : min k zs.length = k := by omega
  rw [hd, e, List.set_append_right _ _ (by simp; omega), List.take_succ_eq_append_getElem h, List.append_assoc]
  simp only [List.length_take, hm, Nat.sub_self, List.replicate_succ, List.set_cons_zero, gb, List.getD, List.getElem?_eq_getElem h, Option.getD_some, List.cons_append, List.nil_append]
end Go.Proofs.YtbkaecjkgjkheaaGreatDoor.fa

/- What Len8 answers: how many bits a byte has; which is the last one of it. No claim of its own. -/
namespace Go.Proofs.YtbkaecjkgjkheaaGreatDoor.fa
open Go.RowKit
set_option maxRecDepth 20000

/-- how many bits a byte has -/
def ln (x : Nat) : Nat := if x < 1 then 0 else if x < 2 then 1 else if x < 4 then 2 else if x < 8 then 3 else if x < 16 then 4 else if x < 32 then 5 else if x < 64 then 6 else if x < 128 then 7 else 8
theorem ln_top : ∀ x, x < 256 → 0 < x → 1 ≤ ln x ∧ ln x ≤ 8 ∧ bit x (ln x - 1) = true ∧ ∀ t, t < 8 → ln x ≤ t → bit x t = false := by decide +kernel
end Go.Proofs.YtbkaecjkgjkheaaGreatDoor.fa

/- What fault's lastToClear answers: the last bit that is to be cleared. No claim of its own. -/
namespace Go.Proofs.YtbkaecjkgjkheaaGreatDoor.fa
open Go.RowKit
set_option maxRecDepth 20000

theorem bit_not : ∀ y, y < 256 → ∀ t, t < 8 → bit (255 - y) t = !bit y t := by decide +kernel
theorem bit_and (a b t : Nat) : bit (a &&& b) t = (bit a t && bit b t) := by rw [bit_test, bit_test, bit_test, Nat.testBit_and]
theorem bit_or (a b t : Nat) : bit (a ||| b) t = (bit a t || bit b t) := by rw [bit_test, bit_test, bit_test, Nat.testBit_or]
theorem bit_zero (t : Nat) : bit 0 t = false := by unfold bit; simp
theorem bit_pow : ∀ k, k < 8 → ∀ t, t < 8 → bit (2 ^ k) t = decide (t = k) := by decide +kernel
theorem tc_bit (xs ys : List Int) (hy : AllB ys) (j t : Nat) (ht : t < 8) : bit (tc xs ys j).toNat t = due xs ys (8 * j + t) := by
  have b := hy j
  unfold tc due
  rw [Int.toNat_natCast, bit_and, bit_not _ (by omega) t ht, hs_at xs j t ht, hs_at ys j t ht]
theorem lst_eq (xs ys : List Int) (N p : Nat) (hp : p < N) (hd : due xs ys p = true) (h : ∀ k, p < k → k < N → due xs ys k = false) : lst xs ys N = p + 1 := by
  induction N with
  | zero => omega
  | succ N ih =>
    unfold lst
    by_cases e : p = N
    · subst e; rw [if_pos hd]
    · rw [if_neg (by rw [h N (by omega) (by omega)]; simp), ih (by omega) (fun k h1 h2 => h k h1 (by omega))]
theorem lst_none (xs ys : List Int) (N : Nat) (h : ∀ k, k < N → due xs ys k = false) : lst xs ys N = 0 := by
  induction N with
  | zero => rfl
  | succ N ih =>
    unfold lst
    rw [if_neg (by rw [h N (by omega)]; simp), ih (fun k hk => h k (by omega))]
/-- the last bit that is to be cleared is bit t of byte p, and z is it; or there is none -/
def IsL (xs ys : List Int) (p z : Nat) : Prop := (p = 0 ∧ z = 0 ∧ lst xs ys (8 * xs.length) = 0) ∨ ∃ t, t < 8 ∧ p < xs.length ∧ z = 2 ^ t ∧ lst xs ys (8 * xs.length) = 8 * p + t + 1
theorem isL_some (xs ys : List Int) (hx : AllB xs) (hy : AllB ys) (p x : Nat) (hp : p < xs.length) (hx0 : tc xs ys p = x) (h0 : 0 < x) (h : ∀ q, 8 * (p + 1) ≤ q → q < 8 * xs.length → due xs ys q = false) : IsL xs ys p (2 ^ (ln x - 1)) := by
  have hb := tc_bd xs ys hx p
  obtain ⟨l1, l2, l3, l4⟩ := ln_top x (by omega) h0
  have hbit : ∀ t, t < 8 → due xs ys (8 * p + t) = bit x t := fun t ht => by rw [← tc_bit xs ys hy p t ht, hx0, Int.toNat_natCast]
  refine Or.inr ⟨ln x - 1, by omega, hp, rfl, lst_eq xs ys _ _ (by omega) (by rw [hbit _ (by omega)]; exact l3) fun k h1 h2 => ?_⟩
  by_cases hk : 8 * (p + 1) ≤ k
  · exact h k hk h2
  · have e : k = 8 * p + (k - 8 * p) := by omega
    rw [e, hbit _ (by omega)]
    exact l4 _ (by omega) (by omega)
theorem due_byte (xs ys : List Int) (hy : AllB ys) (p : Nat) (h0 : tc xs ys p = 0) (q : Nat) (h1 : 8 * p ≤ q) (h2 : q < 8 * (p + 1)) : due xs ys q = false := by
  have := tc_bit xs ys hy p (q - 8 * p) (by omega)
  rw [h0, show (0 : Int).toNat = 0 from rfl, bit_zero, show 8 * p + (q - 8 * p) = q by omega] at this
  exact this.symm
theorem pow_ln (x : Nat) (h : 0 < x) (hx : x < 256) : 2 ^ (ln x - 1) ≤ 128 := by
  obtain ⟨l1, l2, -⟩ := ln_top x hx h
  exact Nat.pow_le_pow_right (by omega) (show ln x - 1 ≤ 7 by omega)
end Go.Proofs.YtbkaecjkgjkheaaGreatDoor.fa

/- What the reference's Program and Erase answer. No claim of its own. -/
namespace Go.Proofs.YtbkaecjkgjkheaaGreatDoor.fa
open Go.RowKit
set_option maxRecDepth 20000

/-- which bits are there behind a program: of N bits the last one to be cleared is left out, if it fails -/
def prg (xs ys m : List Int) (fl : Bool) (N i : Nat) : Bool := hs xs i && !(due xs ys i && mk m i && !(fl && (i + 1 == lst xs ys N)))
/-- the first k bits are done -/
def upb (F G : Nat → Bool) (k i : Nat) : Bool := if i < k then F i else G i
theorem upb_zero (F G : Nat → Bool) (n : Nat) : ofb n (upb F G 0) = ofb n G := ofb_congr n fun i _ => by unfold upb; rw [if_neg (by omega)]
theorem upb_end (F G : Nat → Bool) (n : Nat) : ofb n (upb F G (8 * n)) = ofb n F := ofb_congr n fun i hi => by unfold upb; rw [if_pos hi]
theorem upb_same (F G : Nat → Bool) (n k : Nat) (h : F k = G k) : ofb n (upb F G (k + 1)) = ofb n (upb F G k) := ofb_congr n fun i _ => by
  unfold upb
  by_cases h1 : i < k
  · rw [if_pos h1, if_pos (by omega)]
  · rw [if_neg h1]
    by_cases h2 : i = k
    · subst h2; rw [if_pos (by omega), h]
    · rw [if_neg (by omega)]
theorem upb_at (F G : Nat → Bool) (k : Nat) : upb F G k k = G k ∧ upb F G (k + 1) k = F k ∧ ∀ i, i ≠ k → upb F G k i = upb F G (k + 1) i := by
  unfold upb
  refine ⟨by rw [if_neg (by omega)], by rw [if_pos (by omega)], fun i hi => ?_⟩
  by_cases h1 : i < k
  · rw [if_pos h1, if_pos (by omega)]
  · rw [if_neg h1, if_neg (by omega)]
theorem bo_nat (m : List Int) (k : Nat) : bo m (k : Int) = mk m k := by unfold bo; rw [if_neg (by omega), Int.toNat_natCast]
theorem lst_succ (xs ys : List Int) (k : Nat) : lst xs ys (k + 1) = if due xs ys k then k + 1 else lst xs ys k := rfl
theorem gb_out (xs : List Int) (k : Nat) (h : xs.length ≤ k) : gb xs k = 0 := by simp [gb, List.getD, h]
end Go.Proofs.YtbkaecjkgjkheaaGreatDoor.fa

/- A head as a list of bytes: what it tells, what a mark, an erase or a program make of it. No claim of its own. -/
namespace Go.Proofs.YtbkaecjkgjkheaaGreatDoor.he
open Go.RowKit Go.Proofs.YtbkaecjkgjkheaaGreatDoor.fa
set_option maxRecDepth 20000

/-- x as s bytes, the greatest first -/
def be (x : Int) (s : Nat) : List Int := (le x s).reverse
theorem be_len (x : Int) (s : Nat) : (be x s).length = s := by simp [be, le_len]
theorem be_all (x : Int) (s : Nat) : AllB (be x s) := allB_reverse (le_all x s)
/-- the head's bytes -/
def hb (k n c l e t : Int) : List Int := [k, n, c, 0] ++ (be l 4 ++ (be e 8 ++ be t 8))
theorem hb_len (k n c l e t : Int) : (hb k n c l e t).length = 24 := by simp [hb, be_len]
/-- a head may be -/
def Rh (k n c : Int) : Prop := 1 ≤ k ∧ k ≤ 4 ∧ 0 ≤ n ∧ n ≤ 255 ∧ 0 ≤ c ∧ c ≤ 255
theorem allB_app {xs ys : List Int} (h : AllB xs) (h' : AllB ys) : AllB (xs ++ ys) := allB_mem fun x hx => by
  rcases List.mem_append.1 hx with q | q
  · obtain ⟨i, hi, rfl⟩ := mem_gb q; exact h i
  · obtain ⟨i, hi, rfl⟩ := mem_gb q; exact h' i
theorem hb_all {k n c : Int} (h : Rh k n c) (l e t : Int) : AllB (hb k n c l e t) := by
  obtain ⟨h1, h2, h3, h4, h5, h6⟩ := h
  refine allB_app (allB_mem fun x hx => ?_) (allB_app (be_all l 4) (allB_app (be_all e 8) (be_all t 8)))
  simp at hx
  rcases hx with rfl | rfl | rfl | rfl <;> omega
/-- bytes l to h of a list -/
def sub (xs : List Int) (l h : Nat) : List Int := (xs.take h).drop l
theorem sub_len (xs : List Int) (l h : Nat) (hh : h ≤ xs.length) : (sub xs l h).length = h - l := by simp [sub]; omega
theorem sub_gb (xs : List Int) (l h t : Nat) (ht : t < h - l) : gb (sub xs l h) t = gb xs (l + t) := gb_cut xs l h t ht
theorem allB_sub {xs : List Int} (h : AllB xs) (l u : Nat) : AllB (sub xs l u) := allB_mem fun x hx => by
  obtain ⟨i, hi, rfl⟩ := mem_gb (List.mem_of_mem_take (List.mem_of_mem_drop hx))
  exact h i
theorem gb_appL (xs ys : List Int) (k : Nat) : gb (xs ++ ys) k = if k < xs.length then gb xs k else gb ys (k - xs.length) := by
  unfold gb
  rw [List.getD_eq_getElem?_getD]
  by_cases h : k < xs.length
  · rw [if_pos h, List.getElem?_append_left h]; rfl
  · rw [if_neg h, List.getElem?_append_right (by omega)]; rfl
theorem sub_of (a b c : List Int) : sub (a ++ (b ++ c)) a.length (a.length + b.length) = b := by
  unfold sub
  rw [← List.append_assoc, List.take_append_of_le_length (by simp), List.take_of_length_le (by simp), List.drop_left]
theorem sub_at (a b c : List Int) (l h : Nat) (hl : a.length = l) (hh : l + b.length = h) : sub (a ++ (b ++ c)) l h = b := by
  subst hl; subst hh; exact sub_of a b c

/-! ### numbers and bytes -/
def n4 (a b c d : Int) : Int := ((a * 256 + b) * 256 + c) * 256 + d
theorem num_of4 (a b c d : Int) (ha : 0 ≤ a ∧ a ≤ 255) (hb : 0 ≤ b ∧ b ≤ 255) (hc : 0 ≤ c ∧ c ≤ 255) (_hd : 0 ≤ d ∧ d ≤ 255) : num (last8 [a, b, c, d]) = n4 a b c d := by
  simp [num, last8, n4]
  omega
theorem num_of8 (a b c d e f g h : Int) (ha : 0 ≤ a ∧ a ≤ 255) (hb : 0 ≤ b ∧ b ≤ 255) (hc : 0 ≤ c ∧ c ≤ 255) (hd : 0 ≤ d ∧ d ≤ 255) (he : 0 ≤ e ∧ e ≤ 255) (hf : 0 ≤ f ∧ f ≤ 255) (hg : 0 ≤ g ∧ g ≤ 255) (_hh : 0 ≤ h ∧ h ≤ 255) : num (last8 [a, b, c, d, e, f, g, h]) = n4 a b c d * 4294967296 + n4 e f g h := by
  simp [num, last8, n4]
  omega
theorem be4 (x : Int) : be x 4 = [x / 256 / 256 / 256 % 256, x / 256 / 256 % 256, x / 256 % 256, x % 256] := rfl
theorem be8 (x : Int) : be x 8 = [x / 256 / 256 / 256 / 256 / 256 / 256 / 256 % 256, x / 256 / 256 / 256 / 256 / 256 / 256 % 256, x / 256 / 256 / 256 / 256 / 256 % 256, x / 256 / 256 / 256 / 256 % 256, x / 256 / 256 / 256 % 256, x / 256 / 256 % 256, x / 256 % 256, x % 256] := rfl
theorem num_be4 (x : Int) (h : 0 ≤ x ∧ x ≤ 4294967295) : num (last8 (be x 4)) = x := by
  rw [be4, num_of4 _ _ _ _ (by omega) (by omega) (by omega) (by omega)]
  unfold n4; omega
theorem num_be8 (x : Int) (h : 0 ≤ x ∧ x ≤ 18446744073709551615) : num (last8 (be x 8)) = x := by
  rw [be8, num_of8 _ _ _ _ _ _ _ _ (by omega) (by omega) (by omega) (by omega) (by omega) (by omega) (by omega) (by omega)]
  unfold n4; omega
theorem list4 {xs : List Int} (h : xs.length = 4) : xs = [gb xs 0, gb xs 1, gb xs 2, gb xs 3] := by
  match xs, h with
  | [a, b, c, d], _ => rfl
theorem list8 {xs : List Int} (h : xs.length = 8) : xs = [gb xs 0, gb xs 1, gb xs 2, gb xs 3, gb xs 4, gb xs 5, gb xs 6, gb xs 7] := by
  match xs, h with
  | [a, b, c, d, e, f, g, h], _ => rfl
theorem be_num4 {xs : List Int} (h : xs.length = 4) (ha : AllB xs) : be (num (last8 xs)) 4 = xs ∧ 0 ≤ num (last8 xs) ∧ num (last8 xs) ≤ 4294967295 := by
  have h0 := ha 0; have h1 := ha 1; have h2 := ha 2; have h3 := ha 3
  rw [list4 h]
  generalize gb xs 0 = a at *; generalize gb xs 1 = b at *; generalize gb xs 2 = c at *; generalize gb xs 3 = d at *
  rw [num_of4 _ _ _ _ h0 h1 h2 h3, be4]
  unfold n4
  refine ⟨?_, by omega, by omega⟩
  have e1 : (((a * 256 + b) * 256 + c) * 256 + d) % 256 = d := by omega
  have e2 : (((a * 256 + b) * 256 + c) * 256 + d) / 256 % 256 = c := by omega
  have e3 : (((a * 256 + b) * 256 + c) * 256 + d) / 256 / 256 % 256 = b := by omega
  have e4 : (((a * 256 + b) * 256 + c) * 256 + d) / 256 / 256 / 256 % 256 = a := by omega
  rw [e1, e2, e3, e4]
theorem be_num8 {xs : List Int} (h : xs.length = 8) (ha : AllB xs) : be (num (last8 xs)) 8 = xs ∧ 0 ≤ num (last8 xs) ∧ num (last8 xs) ≤ 18446744073709551615 := by
  have h0 := ha 0; have h1 := ha 1; have h2 := ha 2; have h3 := ha 3; have h4 := ha 4; have h5 := ha 5; have h6 := ha 6; have h7 := ha 7
  rw [list8 h]
  generalize gb xs 0 = a at *; generalize gb xs 1 = b at *; generalize gb xs 2 = c at *; generalize gb xs 3 = d at *
  generalize gb xs 4 = e at *; generalize gb xs 5 = f at *; generalize gb xs 6 = g at *; generalize gb xs 7 = i at *
  rw [num_of8 _ _ _ _ _ _ _ _ h0 h1 h2 h3 h4 h5 h6 h7, be8]
  unfold n4
  refine ⟨?_, by omega, by omega⟩
  generalize hN : (((a * 256 + b) * 256 + c) * 256 + d) * 4294967296 + (((e * 256 + f) * 256 + g) * 256 + i) = N
  have e1 : N % 256 = i := by omega
  have f1 : N / 256 = (((a * 256 + b) * 256 + c) * 256 + d) * 16777216 + ((e * 256 + f) * 256 + g) := by omega
  have e2 : N / 256 % 256 = g := by omega
  have f2 : N / 256 / 256 = (((a * 256 + b) * 256 + c) * 256 + d) * 65536 + (e * 256 + f) := by omega
  have e3 : N / 256 / 256 % 256 = f := by omega
  have f3 : N / 256 / 256 / 256 = (((a * 256 + b) * 256 + c) * 256 + d) * 256 + e := by omega
  have e4 : N / 256 / 256 / 256 % 256 = e := by omega
  have f4 : N / 256 / 256 / 256 / 256 = ((a * 256 + b) * 256 + c) * 256 + d := by omega
  have e5 : N / 256 / 256 / 256 / 256 % 256 = d := by omega
  have f5 : N / 256 / 256 / 256 / 256 / 256 = (a * 256 + b) * 256 + c := by omega
  have e6 : N / 256 / 256 / 256 / 256 / 256 % 256 = c := by omega
  have f6 : N / 256 / 256 / 256 / 256 / 256 / 256 = a * 256 + b := by omega
  have e7 : N / 256 / 256 / 256 / 256 / 256 / 256 % 256 = b := by omega
  have e8 : N / 256 / 256 / 256 / 256 / 256 / 256 / 256 % 256 = a := by omega
  rw [e1, e2, e3, e4, e5, e6, e7, e8]

/-! ### what an end tells -/
def qk (xs : List Int) : Int := gb xs 0
def qn (xs : List Int) : Int := gb xs 1
def qc (xs : List Int) : Int := gb xs 2
def ql (xs : List Int) : Int := num (last8 (sub xs 4 8))
def qe (xs : List Int) : Int := num (last8 (sub xs 8 16))
def qt (xs : List Int) : Int := num (last8 (sub xs 16 24))
/-- the end tells a head -/
def Tl (xs : List Int) : Prop := inv (sub xs 0 24) = sub xs 24 48 ∧ gb xs 3 = 0 ∧ 1 ≤ gb xs 0 ∧ gb xs 0 ≤ 4
theorem ext4 (xs : List Int) (h : 24 ≤ xs.length) (ha : AllB xs) (h0 : gb xs 3 = 0) : hb (qk xs) (qn xs) (qc xs) (ql xs) (qe xs) (qt xs) = sub xs 0 24 := by
  have a1 := (be_num4 (xs := sub xs 4 8) (by rw [sub_len _ _ _ (by omega)]) (allB_sub ha 4 8)).1
  have a2 := (be_num8 (xs := sub xs 8 16) (by rw [sub_len _ _ _ (by omega)]) (allB_sub ha 8 16)).1
  have a3 := (be_num8 (xs := sub xs 16 24) (by rw [sub_len _ _ _ (by omega)]) (allB_sub ha 16 24)).1
  unfold hb ql qe qt
  rw [a1, a2, a3]
  refine ext_gb (by simp [sub_len, show 8 ≤ xs.length by omega, show 16 ≤ xs.length by omega, h]) fun t ht => ?_
  have l1 := sub_len xs 4 8 (by omega)
  have l2 := sub_len xs 8 16 (by omega)
  have l3 := sub_len xs 16 24 (by omega)
  simp only [List.length_append, List.length_cons, List.length_nil, l1, l2, l3] at ht
  rw [sub_gb xs 0 24 t (by omega), Nat.zero_add, gb_appL]
  split
  · rename_i q
    simp at q
    match t, q with
    | 0, _ => rfl
    | 1, _ => rfl
    | 2, _ => rfl
    | 3, _ => exact h0.symm
  · rename_i q
    simp at q
    simp only [List.length_cons, List.length_nil]
    rw [gb_appL, l1]
    split
    · rw [sub_gb xs 4 8 _ (by omega)]; congr 1; omega
    · rw [gb_appL, l2]
      split
      · rw [sub_gb xs 8 16 _ (by omega)]; congr 1; omega
      · rw [sub_gb xs 16 24 _ (by omega)]; congr 1; omega
theorem hb3 (k n c l e t : Int) : gb (hb k n c l e t) 3 = 0 := rfl
/-- the numbers that the head's bytes tell -/
theorem q_hb {k n c l e t : Int} (ys : List Int) (hl : 0 ≤ l ∧ l ≤ 4294967295) (he : 0 ≤ e ∧ e ≤ 18446744073709551615) (ht : 0 ≤ t ∧ t ≤ 18446744073709551615) :
    qk (hb k n c l e t ++ ys) = k ∧ qn (hb k n c l e t ++ ys) = n ∧ qc (hb k n c l e t ++ ys) = c ∧ ql (hb k n c l e t ++ ys) = l ∧ qe (hb k n c l e t ++ ys) = e ∧ qt (hb k n c l e t ++ ys) = t := by
  have e1 : hb k n c l e t ++ ys = [k, n, c, 0] ++ (be l 4 ++ (be e 8 ++ be t 8 ++ ys)) := by simp [hb]
  have e2 : hb k n c l e t ++ ys = ([k, n, c, 0] ++ be l 4) ++ (be e 8 ++ (be t 8 ++ ys)) := by simp [hb]
  have e3 : hb k n c l e t ++ ys = ([k, n, c, 0] ++ be l 4 ++ be e 8) ++ (be t 8 ++ ys) := by simp [hb]
  refine ⟨rfl, rfl, rfl, ?_, ?_, ?_⟩
  · unfold ql; rw [e1, sub_at _ _ _ 4 8 rfl (by rw [be_len]), num_be4 l hl]
  · unfold qe; rw [e2, sub_at _ _ _ 8 16 (by simp [be_len]) (by rw [be_len]), num_be8 e he]
  · unfold qt; rw [e3, sub_at _ _ _ 16 24 (by simp [be_len]) (by rw [be_len]), num_be8 t ht]

/-- an end: head, complement, tag, mark -/
def hend (hs tag mark : List Int) : List Int := hs ++ (inv hs ++ (tag ++ mark))
theorem hend_len {hs tag mark : List Int} (h : hs.length = 24) (h1 : tag.length = 32) (h2 : mark.length = 8) : (hend hs tag mark).length = 88 := by
  simp [hend, inv_len, h, h1, h2]
theorem hend_all {hs tag mark : List Int} (h : AllB hs) (h1 : AllB tag) (h2 : AllB mark) : AllB (hend hs tag mark) := allB_app h (allB_app (inv_all hs h) (allB_app h1 h2))
theorem hend_sub {hs tag mark : List Int} (h : hs.length = 24) (h1 : tag.length = 32) : sub (hend hs tag mark) 0 24 = hs ∧ sub (hend hs tag mark) 24 48 = inv hs ∧ sub (hend hs tag mark) 48 80 = tag ∧ (hend hs tag mark).drop 80 = mark := by
  refine ⟨?_, ?_, ?_, ?_⟩
  · have : hend hs tag mark = [] ++ (hs ++ (inv hs ++ (tag ++ mark))) := rfl
    rw [this, sub_at _ _ _ 0 24 rfl (by omega)]
  · unfold hend; rw [sub_at _ _ _ 24 48 h (by rw [inv_len]; omega)]
  · have : hend hs tag mark = (hs ++ inv hs) ++ (tag ++ mark) := by simp [hend]
    rw [this, sub_at _ _ _ 48 80 (by rw [List.length_append, inv_len]; omega) (by omega)]
  · have : hend hs tag mark = (hs ++ inv hs ++ tag) ++ mark := by simp [hend]
    rw [this, List.drop_append_of_le_length (by simp [inv_len]; omega), List.drop_of_length_le (by simp [inv_len]; omega), List.nil_append]
/-- a right head's end tells it -/
theorem hend_tl {k n c l e t : Int} (h : Rh k n c) (tag mark : List Int) (h1 : tag.length = 32) : Tl (hend (hb k n c l e t) tag mark) := by
  obtain ⟨s1, s2, -, -⟩ := hend_sub (mark := mark) (hb_len k n c l e t) h1
  refine ⟨by rw [s1, s2], rfl, h.1, h.2.1⟩
/-- what the reference asks of an end -/
theorem tl_ref (xs : List Int) (hx : xs.length = 88) (ha : AllB xs) : Tl xs ↔ Rh (qk xs) (qn xs) (qc xs) ∧ hb (qk xs) (qn xs) (qc xs) (ql xs) (qe xs) (qt xs) ++ inv (hb (qk xs) (qn xs) (qc xs) (ql xs) (qe xs) (qt xs)) = sub xs 0 48 := by
  have l1 := sub_len xs 0 24 (by omega)
  have l2 := sub_len xs 24 48 (by omega)
  have e0 : sub xs 0 48 = sub xs 0 24 ++ sub xs 24 48 := by
    have z := List.take_append_drop 24 (xs.take 48)
    rw [List.take_take, show min 24 48 = 24 by omega] at z
    unfold sub
    rw [List.drop_zero, List.drop_zero]
    exact z.symm
  constructor
  · rintro ⟨h1, h2, h3, h4⟩
    have b1 := ha 1; have b2 := ha 2
    refine ⟨⟨h3, h4, b1.1, b1.2, b2.1, b2.2⟩, ?_⟩
    rw [ext4 xs (by omega) ha h2, h1, e0]
  · rintro ⟨hr, h⟩
    rw [e0] at h
    obtain ⟨h1, h2⟩ := List.append_inj h (by rw [hb_len, l1])
    refine ⟨by rw [← h1, h2], ?_, hr.1, hr.2.1⟩
    have := congrArg (fun l => gb l 3) h1
    simp only [sub_gb xs 0 24 3 (by omega)] at this
    rw [hb3] at this
    exact this.symm

/-! ### bits -/
theorem bit_xr (x t : Nat) (ht : t < 8) : bit (255 ^^^ x) t = !bit x t := by
  rw [bit_test, bit_test, Nat.testBit_xor]
  have : (255 : Nat).testBit t = true := by
    match t, ht with
    | 0, _ => rfl
    | 1, _ => rfl
    | 2, _ => rfl
    | 3, _ => rfl
    | 4, _ => rfl
    | 5, _ => rfl
    | 6, _ => rfl
    | 7, _ => rfl
  rw [this]
  cases x.testBit t <;> rfl
theorem hs_inv (xs : List Int) (i : Nat) (h : i < 8 * xs.length) : hs (inv xs) i = !hs xs i := by
  unfold hs
  rw [inv_gb xs (i / 8) (by omega)]
  unfold xr
  rw [Int.toNat_natCast]
  exact bit_xr _ _ (Nat.mod_lt _ (by omega))
theorem hs_ext {xs ys : List Int} (h : xs.length = ys.length) (hx : AllB xs) (hy : AllB ys) (hb : ∀ i, i < 8 * xs.length → hs xs i = hs ys i) : xs = ys := by
  rw [← ofb_hs ys hy (hs xs) fun i hi => hb i (by omega), ← h]
  exact (ofb_hs xs hx _ fun _ _ => rfl).symm
theorem hs_app (xs ys : List Int) (i : Nat) : hs (xs ++ ys) i = if i < 8 * xs.length then hs xs i else hs ys (i - 8 * xs.length) := by
  unfold hs
  rw [gb_appL]
  by_cases h : i < 8 * xs.length
  · rw [if_pos (by omega), if_pos h]
  · rw [if_neg (by omega), if_neg h, show (i - 8 * xs.length) / 8 = i / 8 - xs.length by omega, show (i - 8 * xs.length) % 8 = i % 8 by omega]
/-- bits that were all set, or all cleared, leave no complement but where nothing changed -/
theorem bits_whole {p y z : List Int} (hp : AllB p) (hy : AllB y) (l1 : y.length = p.length) (he : inv y = z) (hm : (∀ i, i < 8 * (2 * p.length) → hs (p ++ inv p) i = true → hs (y ++ z) i = true) ∨ (∀ i, i < 8 * (2 * p.length) → hs (y ++ z) i = true → hs (p ++ inv p) i = true)) : y = p := by
  refine hs_ext l1 hy hp fun i hi => ?_
  have a1 := hs_app p (inv p) i
  have a2 := hs_app p (inv p) (8 * p.length + i)
  have a3 := hs_app y z i
  have a4 := hs_app y z (8 * y.length + i)
  rw [if_pos (by omega)] at a1 a3
  rw [if_neg (by omega), show 8 * p.length + i - 8 * p.length = i by omega, hs_inv p i (by omega)] at a2
  rw [if_neg (by omega), show 8 * y.length + i - 8 * y.length = i by omega, ← he, hs_inv y i (by omega)] at a4
  rw [l1] at a4
  rw [he] at a4
  rcases hm with hm | hm
  · have m1 := hm i (by omega)
    have m2 := hm (8 * p.length + i) (by omega)
    rw [a1, a3] at m1
    rw [a2, a4] at m2
    cases q : hs p i <;> cases r : hs y i <;> simp [q, r] at m1 m2 ⊢
  · have m1 := hm i (by omega)
    have m2 := hm (8 * p.length + i) (by omega)
    rw [a1, a3] at m1
    rw [a2, a4] at m2
    cases q : hs p i <;> cases r : hs y i <;> simp [q, r] at m1 m2 ⊢

/-! ### a mark -/
def mark (n : Nat) : List Int := List.replicate (n - 8) 255 ++ List.replicate 8 0
theorem mark_len (n : Nat) (h : 8 ≤ n) : (mark n).length = n := by simp [mark]; omega
theorem mark_all (n : Nat) : AllB (mark n) := allB_app (allB_replicate 255 _ (by omega)) (allB_replicate 0 _ (by omega))
theorem and255 (x : Nat) (h : x < 256) : x &&& 255 = x := by
  have : (255 : Nat) = 2 ^ 8 - 1 := by decide
  rw [this, Nat.and_two_pow_sub_one_eq_mod, Nat.mod_eq_of_lt (by omega)]
theorem gb_repl (k t : Nat) (x : Int) (h : t < k) : gb (List.replicate k x) t = x := by simp [gb, List.getD, h]
/-- an end, programmed with a mark -/
theorem and_mark {n : Nat} (h : 88 ≤ n) {hs tag mk : List Int} (h0 : hs.length = 24) (h1 : tag.length = 32) (h2 : mk.length = 8) (a0 : AllB hs) (a1 : AllB tag) (a2 : AllB mk) : andl (hend hs tag mk) ((mark n).drop (n - 88)) = hend hs tag (List.replicate 8 0) := by
  have l0 := hend_len (mark := mk) h0 h1 h2
  have l1 := hend_len (mark := List.replicate 8 0) h0 h1 (by simp)
  have aa := hend_all a0 a1 a2
  refine ext_gb (by rw [andl_len, l0, l1]) fun t ht => ?_
  rw [andl_len, l0] at ht
  rw [andl_gb _ _ t (by omega), gb_drop]
  have e : hend hs tag mk = (hs ++ inv hs ++ tag) ++ mk := by simp [hend]
  have e' : hend hs tag (List.replicate 8 0) = (hs ++ inv hs ++ tag) ++ List.replicate 8 0 := by simp [hend]
  have el : (hs ++ inv hs ++ tag).length = 80 := by simp [inv_len]; omega
  have b := aa t
  unfold mark
  rw [gb_appL, List.length_replicate]
  have z1 : gb (hend hs tag (List.replicate 8 0)) t = if t < 80 then gb (hs ++ inv hs ++ tag) t else 0 := by
    rw [e', gb_appL, el]
    split
    · rfl
    · exact gb_repl _ _ _ (by omega)
  by_cases q : t < 80
  · have z2 : gb (hend hs tag mk) t = gb (hs ++ inv hs ++ tag) t := by rw [e, gb_appL, if_pos (by rw [el]; exact q)]
    rw [if_pos (by omega), gb_repl _ _ _ (by omega), show (255 : Int).toNat = 255 from rfl, and255 _ (by omega), z1, if_pos q, ← z2]
    omega
  · rw [if_neg (by omega), gb_repl _ _ _ (by omega), show (0 : Int).toNat = 0 from rfl, Nat.and_zero, z1, if_neg q]; rfl
end Go.Proofs.YtbkaecjkgjkheaaGreatDoor.he

/- What head's isKind, isByte, numbersOf, headOf and Less, and the reference's Right answer. No claim of its own. -/
namespace Go.Proofs.YtbkaecjkgjkheaaGreatDoor.he
open Go.RowKit Go.Proofs.YtbkaecjkgjkheaaGreatDoor.fa
set_option maxRecDepth 20000

theorem kind_any (k : Int) (w : World) (b : Bool) (hb : b = decide (1 ≤ k ∧ k ≤ 4)) :
    Calls Tryz.prog 57 #[.int .i64 k] w fun e w' => e = .returned (.bool b) ∧ w' = w := by
  have HB : Hid (b = decide (1 ≤ k ∧ k ≤ 4)) := hb
  clear hb
  by_cases a1 : 1 ≤ k
  · have l1 : k ≥ 1 := a1
    by_cases a2 : k ≤ 4
    · go_enter Tryz.func57, Tryz.ntmps57
      go_wp2
      go_ret
      exact ⟨ret_bool (by rw [HB.out]; simp; omega), rfl⟩
    · go_enter Tryz.func57, Tryz.ntmps57
      go_wp2
      go_ret
      exact ⟨ret_bool (by rw [HB.out]; simp; omega), rfl⟩
  · have l1 : ¬ k ≥ 1 := a1
    go_enter Tryz.func57, Tryz.ntmps57
    go_wp2
    go_ret
    exact ⟨ret_bool (by rw [HB.out]; simp; omega), rfl⟩

theorem byte_any (k : Int) (w : World) (b : Bool) (hb : b = decide (0 ≤ k ∧ k ≤ 255)) :
    Calls Tryz.prog 58 #[.int .i64 k] w fun e w' => e = .returned (.bool b) ∧ w' = w := by
  have HB : Hid (b = decide (0 ≤ k ∧ k ≤ 255)) := hb
  clear hb
  by_cases a1 : 0 ≤ k
  · have l1 : k ≥ 0 := a1
    by_cases a2 : k ≤ 255
    · go_enter Tryz.func58, Tryz.ntmps58
      go_wp2
      go_ret
      exact ⟨ret_bool (by rw [HB.out]; simp; omega), rfl⟩
    · go_enter Tryz.func58, Tryz.ntmps58
      go_wp2
      go_ret
      exact ⟨ret_bool (by rw [HB.out]; simp; omega), rfl⟩
  · have l1 : ¬ k ≥ 0 := a1
    go_enter Tryz.func58, Tryz.ntmps58
    go_wp2
    go_ret
    exact ⟨ret_bool (by rw [HB.out]; simp; omega), rfl⟩

/-- numbers as cells -/
def nv (xs : List Int) : List Value := xs.map (Value.int .u64)
theorem nv_one (xs : List Int) : ∀ v ∈ nv xs, v.oneCell' = true := fun v hv' => by
  simp only [nv, List.mem_map] at hv'
  obtain ⟨x, _, rfl⟩ := hv'
  rfl

set_option maxHeartbeats 2000000 in
theorem of_any (k n c l e t : Int) (w : World) (hk : 0 ≤ k ∧ k ≤ 255) (hn : 0 ≤ n ∧ n ≤ 255) (hc : 0 ≤ c ∧ c ≤ 255) (hl : 0 ≤ l ∧ l ≤ 4294967295) :
    Calls Tryz.prog 59 #[.agg (hv k n c l e t).toArray] w fun x w' => x = .returned (.agg (nv [k, n, c, 0, l, e, t]).toArray) ∧ Below w.heap.size w w' := by
  have k1 : IntKind.u64.wrap k = k := by rw [IntKind.wrap_u64]; omega
  have k2 : IntKind.u64.wrap n = n := by rw [IntKind.wrap_u64]; omega
  have k3 : IntKind.u64.wrap c = c := by rw [IntKind.wrap_u64]; omega
  have k4 : IntKind.u64.wrap l = l := by rw [IntKind.wrap_u64]; omega
  clear hk hn hc hl
  go_enter Tryz.func59, Tryz.ntmps59
  have t0 : (0 : Nat) = 0 := rfl
  go_wp2_with (first
    | (have q2 := t2; refine store_lawC _ (nv [k, n, c, 0, l, e, t]) w1.heap.size 0 rfl rfl HV2.out.2 rowy_nums.2 (nv_one _) ?_; intro w3 E3 R3 T3 B3; have HR : Hid (w3.rangeAt w1.heap.size 0 (nv [k, n, c, 0, l, e, t])) := R3; clear t2 E3 R3 T3)
    | (have q1 := t1; refine new_lawC _ (nv [0, 0, 0, 0, 0, 0, 0]) zero_nums ?_; intro w2 V2 B2 s2; have HV2 : Hid (Vr w2 w1.heap.size (nv [0, 0, 0, 0, 0, 0, 0])) := V2; have A2 := HA.out.below B2 s1; have c0 := A2.cell 0 _ rfl; have c1 := A2.cell 1 _ rfl; have c2 := A2.cell 2 _ rfl; have c3 := A2.cell 3 _ rfl; have c4 := A2.cell 4 _ rfl; have c5 := A2.cell 5 _ rfl; clear A2 V2 t1; have t2 : (0 : Nat) = 0 := rfl)
    | (have q0 := t0; refine box_lawC _ (hv k n c l e t) rfl ?_; intro w1 V1 B1 s1; have HA : Hid (Vr w1 w.heap.size (hv k n c l e t)) := V1; clear V1 t0; have t1 : (0 : Nat) = 0 := rfl))
  refine bodyPost_ret (v := .agg (nv [k, n, c, 0, l, e, t]).toArray) (results_c rfl _ _ w1.heap.size _ rowy_nums rfl HR.out) rfl ⟨rfl, ?_⟩
  exact (B1.trans (B2.mono (by omega))).trans (B3.mono (by omega))
end Go.Proofs.YtbkaecjkgjkheaaGreatDoor.he

/- What the reference's Right and head's Less answer. No claim of its own. -/
namespace Go.Proofs.YtbkaecjkgjkheaaGreatDoor.he
open Go.RowKit Go.Proofs.YtbkaecjkgjkheaaGreatDoor.fa
set_option maxRecDepth 20000

set_option maxHeartbeats 4000000 in
theorem right_any (k n c l e t : Int) (w : World) (b : Bool) (hb : b = decide (1 ≤ k ∧ k ≤ 4 ∧ 0 ≤ n ∧ n ≤ 255 ∧ 0 ≤ c ∧ c ≤ 255)) :
    Calls Tryz.prog 8 #[.agg (hv k n c l e t).toArray] w fun x w' => x = .returned (.bool b) ∧ Below w.heap.size w w' := by
  have HB : Hid (b = decide (1 ≤ k ∧ k ≤ 4 ∧ 0 ≤ n ∧ n ≤ 255 ∧ 0 ≤ c ∧ c ≤ 255)) := hb
  clear hb
  by_cases a0 : k ≥ 1
  · by_cases a1 : k ≤ 4
    · by_cases a2 : n ≥ 0
      · by_cases a3 : n ≤ 255
        · by_cases a4 : c ≥ 0
          · by_cases a5 : c ≤ 255
            · go_enter Tryz.func8, Tryz.ntmps8
              go_wp2_with (refine box_lawC _ (hv k n c l e t) rfl ?_; intro w1 V1 B1 s1; have c0 := V1.cell 0 _ rfl; have c1 := V1.cell 1 _ rfl; have c2 := V1.cell 2 _ rfl; clear V1)
              go_ret
              exact ⟨ret_bool (by rw [HB.out]; simp; omega), B1⟩
            · go_enter Tryz.func8, Tryz.ntmps8
              go_wp2_with (refine box_lawC _ (hv k n c l e t) rfl ?_; intro w1 V1 B1 s1; have c0 := V1.cell 0 _ rfl; have c1 := V1.cell 1 _ rfl; have c2 := V1.cell 2 _ rfl; clear V1)
              go_ret
              exact ⟨ret_bool (by rw [HB.out]; simp; omega), B1⟩
          · go_enter Tryz.func8, Tryz.ntmps8
            go_wp2_with (refine box_lawC _ (hv k n c l e t) rfl ?_; intro w1 V1 B1 s1; have c0 := V1.cell 0 _ rfl; have c1 := V1.cell 1 _ rfl; have c2 := V1.cell 2 _ rfl; clear V1)
            go_ret
            exact ⟨ret_bool (by rw [HB.out]; simp; omega), B1⟩
        · go_enter Tryz.func8, Tryz.ntmps8
          go_wp2_with (refine box_lawC _ (hv k n c l e t) rfl ?_; intro w1 V1 B1 s1; have c0 := V1.cell 0 _ rfl; have c1 := V1.cell 1 _ rfl; have c2 := V1.cell 2 _ rfl; clear V1)
          go_ret
          exact ⟨ret_bool (by rw [HB.out]; simp; omega), B1⟩
      · go_enter Tryz.func8, Tryz.ntmps8
        go_wp2_with (refine box_lawC _ (hv k n c l e t) rfl ?_; intro w1 V1 B1 s1; have c0 := V1.cell 0 _ rfl; have c1 := V1.cell 1 _ rfl; have c2 := V1.cell 2 _ rfl; clear V1)
        go_ret
        exact ⟨ret_bool (by rw [HB.out]; simp; omega), B1⟩
    · go_enter Tryz.func8, Tryz.ntmps8
      go_wp2_with (refine box_lawC _ (hv k n c l e t) rfl ?_; intro w1 V1 B1 s1; have c0 := V1.cell 0 _ rfl; have c1 := V1.cell 1 _ rfl; have c2 := V1.cell 2 _ rfl; clear V1)
      go_ret
      exact ⟨ret_bool (by rw [HB.out]; simp; omega), B1⟩
  · go_enter Tryz.func8, Tryz.ntmps8
    go_wp2_with (refine box_lawC _ (hv k n c l e t) rfl ?_; intro w1 V1 B1 s1; have c0 := V1.cell 0 _ rfl; have c1 := V1.cell 1 _ rfl; have c2 := V1.cell 2 _ rfl; clear V1)
    go_ret
    exact ⟨ret_bool (by rw [HB.out]; simp; omega), B1⟩
end Go.Proofs.YtbkaecjkgjkheaaGreatDoor.he

