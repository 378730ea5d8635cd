/- Lists of bytes as rows of bits: a bit more, a bit less, all of two. No claim of its own. -/
import Derived.Test.YtedmmpognhpbdaaBase
namespace Go.Proofs.Ytedmmpognhpbdaa.fa
open Go.RowKit
set_option maxRecDepth 20000

/-- a bit as a number -/
def bn (b : Bool) : Nat := if b then 1 else 0
/-- the byte of the bits 8 j .. 8 j + 7 -/
def wt (c : Nat → Bool) (j : Nat) : Nat := bn (c (8 * j)) + 2 * bn (c (8 * j + 1)) + 4 * bn (c (8 * j + 2)) + 8 * bn (c (8 * j + 3)) + 16 * bn (c (8 * j + 4)) + 32 * bn (c (8 * j + 5)) + 64 * bn (c (8 * j + 6)) + 128 * bn (c (8 * j + 7))
theorem bn_le (b : Bool) : bn b ≤ 1 := by cases b <;> simp [bn]
theorem wt_lt (c : Nat → Bool) (j : Nat) : wt c j < 256 := by
  unfold wt
  have := bn_le (c (8 * j)); have := bn_le (c (8 * j + 1)); have := bn_le (c (8 * j + 2)); have := bn_le (c (8 * j + 3))
  have := bn_le (c (8 * j + 4)); have := bn_le (c (8 * j + 5)); have := bn_le (c (8 * j + 6)); have := bn_le (c (8 * j + 7))
  omega
theorem wt_congr {c d : Nat → Bool} {j : Nat} (h : ∀ t, t < 8 → c (8 * j + t) = d (8 * j + t)) : wt c j = wt d j := by
  unfold wt
  have h0 := h 0 (by omega); have h1 := h 1 (by omega); have h2 := h 2 (by omega); have h3 := h 3 (by omega)
  have h4 := h 4 (by omega); have h5 := h 5 (by omega); have h6 := h 6 (by omega); have h7 := h 7 (by omega)
  rw [Nat.add_zero] at h0
  rw [h0, h1, h2, h3, h4, h5, h6, h7]
/-- bit t of a byte -/
def bit (b t : Nat) : Bool := decide (b / 2 ^ t % 2 = 1)
theorem bn_bit (b t : Nat) : bn (bit b t) = b / 2 ^ t % 2 := by
  unfold bit bn
  by_cases h : b / 2 ^ t % 2 = 1
  · simp [h]
  · simp [h]; omega
theorem bits_sum : ∀ b, b < 256 → b / 2 ^ 0 % 2 + 2 * (b / 2 ^ 1 % 2) + 4 * (b / 2 ^ 2 % 2) + 8 * (b / 2 ^ 3 % 2) + 16 * (b / 2 ^ 4 % 2) + 32 * (b / 2 ^ 5 % 2) + 64 * (b / 2 ^ 6 % 2) + 128 * (b / 2 ^ 7 % 2) = b := by decide +kernel
/-- a byte is the one of its bits -/
theorem byte_bits (b : Nat) (h : b < 256) (c : Nat → Bool) (j : Nat) (hc : ∀ t, t < 8 → c (8 * j + t) = bit b t) : wt c j = b := by
  have e : ∀ t, t < 8 → bn (c (8 * j + t)) = b / 2 ^ t % 2 := fun t ht => by rw [hc t ht, bn_bit]
  have h0 := e 0 (by omega); have h1 := e 1 (by omega); have h2 := e 2 (by omega); have h3 := e 3 (by omega)
  have h4 := e 4 (by omega); have h5 := e 5 (by omega); have h6 := e 6 (by omega); have h7 := e 7 (by omega)
  rw [Nat.add_zero] at h0
  unfold wt
  rw [h0, h1, h2, h3, h4, h5, h6, h7]
  exact bits_sum b h
/-- the bits of a byte are those it was made of -/
theorem bit_wt (c : Nat → Bool) (j t : Nat) (ht : t < 8) : bit (wt c j) t = c (8 * j + t) := by
  have b0 := bn_le (c (8 * j)); have b1 := bn_le (c (8 * j + 1)); have b2 := bn_le (c (8 * j + 2)); have b3 := bn_le (c (8 * j + 3))
  have b4 := bn_le (c (8 * j + 4)); have b5 := bn_le (c (8 * j + 5)); have b6 := bn_le (c (8 * j + 6)); have b7 := bn_le (c (8 * j + 7))
  have key : bn (bit (wt c j) t) = bn (c (8 * j + t)) := by
    rw [bn_bit]
    unfold wt
    have : t = 0 ∨ t = 1 ∨ t = 2 ∨ t = 3 ∨ t = 4 ∨ t = 5 ∨ t = 6 ∨ t = 7 := by omega
    rcases this with rfl | rfl | rfl | rfl | rfl | rfl | rfl | rfl <;> simp only [Nat.reducePow, Nat.add_zero] <;> omega
  revert key
  cases bit (wt c j) t <;> cases c (8 * j + t) <;> simp [bn]

/-- n bytes of bits -/
def ofb (n : Nat) (c : Nat → Bool) : List Int := (List.range n).map fun j => ((wt c j : Nat) : Int)
theorem ofb_len (n : Nat) (c : Nat → Bool) : (ofb n c).length = n := by simp [ofb]
theorem ofb_gb (n : Nat) (c : Nat → Bool) (j : Nat) (h : j < n) : gb (ofb n c) j = ((wt c j : Nat) : Int) := by simp [gb, List.getD, ofb, h]
theorem ofb_all (n : Nat) (c : Nat → Bool) : AllB (ofb n c) := allB_mem fun x hx => by
  obtain ⟨j, _, rfl⟩ := List.mem_map.1 hx
  have := wt_lt c j
  omega
/-- bit i of bytes -/
def hs (xs : List Int) (i : Nat) : Bool := bit (gb xs (i / 8)).toNat (i % 8)
theorem hs_at (xs : List Int) (j t : Nat) (ht : t < 8) : hs xs (8 * j + t) = bit (gb xs j).toNat t := by
  unfold hs
  rw [show (8 * j + t) / 8 = j by omega, show (8 * j + t) % 8 = t by omega]
theorem hs_ofb (n : Nat) (c : Nat → Bool) (i : Nat) (h : i < 8 * n) : hs (ofb n c) i = c i := by
  unfold hs
  rw [ofb_gb n c (i / 8) (by omega), Int.toNat_natCast, bit_wt c (i / 8) (i % 8) (by omega), show 8 * (i / 8) + i % 8 = i by omega]
/-- bytes are those of their bits -/
theorem ofb_hs (xs : List Int) (h : AllB xs) (c : Nat → Bool) (hc : ∀ i, i < 8 * xs.length → c i = hs xs i) : ofb xs.length c = xs := by
  refine ext_gb (ofb_len _ _) fun j hj => ?_
  rw [ofb_len] at hj
  have hb := h j
  rw [ofb_gb _ _ j hj, byte_bits (gb xs j).toNat (by omega) c j fun t ht => by rw [hc _ (by omega), hs_at xs j t ht]]
  omega
theorem ofb_congr (n : Nat) {c d : Nat → Bool} (h : ∀ i, i < 8 * n → c i = d i) : ofb n c = ofb n d := by
  refine ext_gb (by rw [ofb_len, ofb_len]) fun j hj => ?_
  rw [ofb_len] at hj
  rw [ofb_gb n c j hj, ofb_gb n d j hj, wt_congr fun t ht => h _ (by omega)]
theorem ofb_inj (n : Nat) {c d : Nat → Bool} (h : ofb n c = ofb n d) (i : Nat) (hi : i < 8 * n) : c i = d i := by rw [← hs_ofb n c i hi, h, hs_ofb n d i hi]

/-! ### one bit -/
theorem bn_up {c d : Nat → Bool} {i k : Nat} (hk : c k = false) (hd : d k = true) (h : ∀ i, i ≠ k → d i = c i) : bn (d i) = bn (c i) + if i = k then 1 else 0 := by
  by_cases e : i = k
  · subst e; rw [hk, hd, if_pos rfl]; rfl
  · rw [h i e, if_neg e]; rfl
theorem wt_up {c d : Nat → Bool} {k : Nat} (hk : c k = false) (hd : d k = true) (h : ∀ i, i ≠ k → d i = c i) (j : Nat) : wt d j = wt c j + if j = k / 8 then 2 ^ (k % 8) else 0 := by
  unfold wt
  rw [bn_up (i := 8 * j) hk hd h, bn_up (i := 8 * j + 1) hk hd h, bn_up (i := 8 * j + 2) hk hd h, bn_up (i := 8 * j + 3) hk hd h, bn_up (i := 8 * j + 4) hk hd h, bn_up (i := 8 * j + 5) hk hd h, bn_up (i := 8 * j + 6) hk hd h, bn_up (i := 8 * j + 7) hk hd h]
  by_cases e : j = k / 8
  · rw [if_pos e]
    have : k % 8 = 0 ∨ k % 8 = 1 ∨ k % 8 = 2 ∨ k % 8 = 3 ∨ k % 8 = 4 ∨ k % 8 = 5 ∨ k % 8 = 6 ∨ k % 8 = 7 := by omega
    rcases this with q | q | q | q | q | q | q | q <;> rw [q] <;> simp only [Nat.reducePow]
    · rw [if_pos (by omega), if_neg (by omega), if_neg (by omega), if_neg (by omega), if_neg (by omega), if_neg (by omega), if_neg (by omega), if_neg (by omega)]; omega
    · rw [if_neg (by omega), if_pos (by omega), if_neg (by omega), if_neg (by omega), if_neg (by omega), if_neg (by omega), if_neg (by omega), if_neg (by omega)]; omega
    · rw [if_neg (by omega), if_neg (by omega), if_pos (by omega), if_neg (by omega), if_neg (by omega), if_neg (by omega), if_neg (by omega), if_neg (by omega)]; omega
    · rw [if_neg (by omega), if_neg (by omega), if_neg (by omega), if_pos (by omega), if_neg (by omega), if_neg (by omega), if_neg (by omega), if_neg (by omega)]; omega
    · rw [if_neg (by omega), if_neg (by omega), if_neg (by omega), if_neg (by omega), if_pos (by omega), if_neg (by omega), if_neg (by omega), if_neg (by omega)]; omega
    · rw [if_neg (by omega), if_neg (by omega), if_neg (by omega), if_neg (by omega), if_neg (by omega), if_pos (by omega), if_neg (by omega), if_neg (by omega)]; omega
    · rw [if_neg (by omega), if_neg (by omega), if_neg (by omega), if_neg (by omega), if_neg (by omega), if_neg (by omega), if_pos (by omega), if_neg (by omega)]; omega
    · rw [if_neg (by omega), if_neg (by omega), if_neg (by omega), if_neg (by omega), if_neg (by omega), if_neg (by omega), if_neg (by omega), if_pos (by omega)]; omega
  · rw [if_neg e, if_neg (by omega), if_neg (by omega), if_neg (by omega), if_neg (by omega), if_neg (by omega), if_neg (by omega), if_neg (by omega), if_neg (by omega)]
    omega
/-- a bit more: d is c with bit k besides -/
theorem ofb_up (n : Nat) {c d : Nat → Bool} {k : Nat} (hk : c k = false) (hd : d k = true) (h : ∀ i, i ≠ k → d i = c i) : (ofb n c).set (k / 8) (gb (ofb n c) (k / 8) + ((2 ^ (k % 8) : Nat) : Int)) = ofb n d := by
  refine ext_gb (by rw [List.length_set, ofb_len, ofb_len]) fun j hj => ?_
  rw [List.length_set, ofb_len] at hj
  rw [ofb_gb n d j hj, wt_up hk hd h j]
  by_cases e : j = k / 8
  · subst e
    rw [if_pos rfl, ofb_gb n c _ hj]
    simp [gb, List.getD, ofb_len, hj]
  · rw [if_neg e, Nat.add_zero, ← ofb_gb n c j hj]
    simp [gb, List.getD, Ne.symm e]
/-- a bit less: c is d without bit k -/
theorem ofb_down (n : Nat) {c d : Nat → Bool} {k : Nat} (hn : k < 8 * n) (hk : c k = false) (hd : d k = true) (h : ∀ i, i ≠ k → d i = c i) : (ofb n d).set (k / 8) (gb (ofb n d) (k / 8) - ((2 ^ (k % 8) : Nat) : Int)) = ofb n c ∧ ((2 ^ (k % 8) : Nat) : Int) ≤ gb (ofb n d) (k / 8) := by
  have W := wt_up hk hd h
  generalize 2 ^ (k % 8) = q at *
  refine ⟨?_, ?_⟩
  · refine ext_gb (by rw [List.length_set, ofb_len, ofb_len]) fun j hj => ?_
    rw [List.length_set, ofb_len] at hj
    rw [ofb_gb n c j hj]
    have w := W j
    by_cases e : j = k / 8
    · subst e
      rw [if_pos rfl] at w
      rw [ofb_gb n d _ hj]
      simp [gb, List.getD, ofb_len, hj]
      omega
    · rw [if_neg e, Nat.add_zero] at w
      rw [← w, ← ofb_gb n d j hj]
      simp [gb, List.getD, Ne.symm e]
  · rw [ofb_gb n d _ (by omega)]
    have w := W (k / 8)
    rw [if_pos rfl] at w
    omega

/-! ### all of two -/
theorem bit_test (b t : Nat) : bit b t = b.testBit t := by rw [Nat.testBit_eq_decide_div_mod_eq]; rfl
theorem and_wt (a b : Nat) (ha : a < 256) (c : Nat → Bool) (j : Nat) (hc : ∀ t, t < 8 → c (8 * j + t) = (bit a t && bit b t)) : a &&& b = wt c j := by
  refine (byte_bits (a &&& b) (Nat.lt_of_le_of_lt Nat.and_le_left ha) c j fun t ht => ?_).symm
  rw [hc t ht, bit_test, bit_test, bit_test, Nat.testBit_and]
/-- the bytes of 'a & b' -/
theorem ands_ofb (xs ys : List Int) (hx : AllB xs) (j : Nat) : (((gb xs j).toNat &&& (gb ys j).toNat : Nat) : Int) = ((wt (fun i => hs xs i && hs ys i) j : Nat) : Int) := by
  have hb := hx j
  rw [and_wt (gb xs j).toNat (gb ys j).toNat (by omega) (fun i => hs xs i && hs ys i) j fun t ht => by rw [hs_at xs j t ht, hs_at ys j t ht]]

/-! ### what a mask says -/
/-- bit i of a mask that is bytes again and again -/
def mk (m : List Int) (i : Nat) : Bool := m.length == 0 || bit (gb m (i / 8 % m.length)).toNat (i % 8)
/-- which bits a program was to clear -/
def due (was tz : List Int) (i : Nat) : Bool := hs was i && !hs tz i
/-- which bits are there behind a program that is torn -/
def torn (was tz m : List Int) (i : Nat) : Bool := hs was i && !(due was tz i && mk m i)
/-- i is the last of the first n bits that was to be cleared -/
def isLast (was tz : List Int) (n i : Nat) : Prop := i < n ∧ due was tz i = true ∧ ∀ k, k < n → i < k → due was tz k = false
/-- the last of the first n bits that was to be cleared, and one; nought: there is none -/
def lst (was tz : List Int) : Nat → Nat
  | 0 => 0
  | n + 1 => if due was tz n then n + 1 else lst was tz n
theorem lst_le (was tz : List Int) (n : Nat) : lst was tz n ≤ n := by
  induction n with
  | zero => exact Nat.le_refl _
  | succ n ih =>
    unfold lst
    split <;> omega
theorem lst_due (was tz : List Int) (n : Nat) (h : 0 < lst was tz n) : due was tz (lst was tz n - 1) = true := by
  induction n with
  | zero => simp [lst] at h
  | succ n ih =>
    unfold lst at h ⊢
    by_cases e : due was tz n = true
    · rw [if_pos e, Nat.add_sub_cancel]; exact e
    · rw [if_neg e] at h ⊢
      exact ih h
theorem lst_past (was tz : List Int) (n k : Nat) (hk : k < n) (h : lst was tz n ≤ k) : due was tz k = false := by
  induction n with
  | zero => omega
  | succ n ih =>
    unfold lst at h
    by_cases e : due was tz n = true
    · rw [if_pos e] at h; omega
    · rw [if_neg e] at h
      by_cases q : k = n
      · subst q; simpa using e
      · exact ih (by omega) h
/-- which bits are there behind a program that fails -/
def failed (was tz m : List Int) (n i : Nat) : Bool := hs was i && !(due was tz i && mk m i && !(i + 1 == lst was tz n))
/-- programs only clear -/
theorem torn_sub (was tz m : List Int) (i : Nat) : (torn was tz m i && hs was i) = torn was tz m i := by unfold torn; cases hs was i <;> simp
theorem failed_sub (was tz m : List Int) (n i : Nat) : (failed was tz m n i && hs was i) = failed was tz m n i := by unfold failed; cases hs was i <;> simp
/-- with an empty mask all is done -/
theorem torn_whole (was tz : List Int) (i : Nat) : torn was tz [] i = (hs was i && hs tz i) := by unfold torn due mk; cases hs was i <;> cases hs tz i <;> simp
/-- one that fails does all only where there is nothing to do -/
theorem failed_whole (was tz m : List Int) (n : Nat) : (∀ i, i < n → failed was tz m n i = (hs was i && hs tz i)) ↔ ∀ i, i < n → hs was i = (hs was i && hs tz i) := by
  constructor
  · intro h
    have hz : lst was tz n = 0 := by
      rcases Nat.eq_zero_or_pos (lst was tz n) with q | q
      · exact q
      · have hd := lst_due was tz n q
        have hle := lst_le was tz n
        have := h (lst was tz n - 1) (by omega)
        unfold failed at this
        rw [show lst was tz n - 1 + 1 = lst was tz n by omega] at this
        unfold due at hd this
        revert hd this
        cases hs was (lst was tz n - 1) <;> cases hs tz (lst was tz n - 1) <;> simp
    intro i hi
    have := lst_past was tz n i hi (by omega)
    unfold due at this
    revert this
    cases hs was i <;> cases hs tz i <;> simp
  · intro h i hi
    have := h i hi
    unfold failed due
    revert this
    cases hs was i <;> cases hs tz i <;> simp
/-- which bits are there behind an erase that is torn -/
def erased (was m : List Int) (i : Nat) : Bool := hs was i || mk m i
theorem erased_sup (was m : List Int) (i : Nat) : (erased was m i && hs was i) = hs was i := by unfold erased; cases hs was i <;> simp
theorem erased_whole (was : List Int) (i : Nat) : erased was [] i = true := by unfold erased mk; cases hs was i <;> simp
theorem ofb_full (n : Nat) (c : Nat → Bool) (h : ∀ i, i < 8 * n → c i = true) : ofb n c = List.replicate n 255 := by
  refine ext_gb (by rw [ofb_len, List.length_replicate]) fun j hj => ?_
  rw [ofb_len] at hj
  rw [ofb_gb n c j hj]
  have e : wt c j = 255 := by
    rw [wt_congr (d := fun _ => true) fun t ht => h _ (by omega)]
    rfl
  rw [e]
  simp [gb, List.getD, hj]
end Go.Proofs.Ytedmmpognhpbdaa.fa
