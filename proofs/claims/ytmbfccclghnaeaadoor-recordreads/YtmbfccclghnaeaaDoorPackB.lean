/- Texts put together (a claim holds few files). No claim of its own. -/
import Derived.Test.YtmbfccclghnaeaaDoorPackA
import Derived.Laws.AppendOwnNone
import Derived.Deep.RegionHeld3
/- Lists of bytes as rows of bits: a bit more, a bit less, all of two. No claim of its own. -/
namespace Go.Proofs.YtmbfccclghnaeaaDoor.fa
open Go.RowKit
set_option maxRecDepth 20000

/-- a bit as a number -/
def bn (b : Bool) : Nat := if b then 1 else 0
/-- the byte of the bits 8 j .. 8 j + 7 -/
def wt (c : Nat → Bool) (j : Nat) : Nat := bn (c (8 * j)) + 2 * bn (c (8 * j + 1)) + 4 * bn (c (8 * j + 2)) + 8 * bn (c (8 * j + 3)) + 16 * bn (c (8 * j + 4)) + 32 * bn (c (8 * j + 5)) + 64 * bn (c (8 * j + 6)) + 128 * bn (c (8 * j + 7))
theorem bn_le (b : Bool) : bn b ≤ 1 := by cases b <;> simp [bn]
theorem wt_lt (c : Nat → Bool) (j : Nat) : wt c j < 256 := by
  unfold wt
  have := bn_le (c (8 * j)); have := bn_le (c (8 * j + 1)); have := bn_le (c (8 * j + 2)); have := bn_le (c (8 * j + 3))
  have := bn_le (c (8 * j + 4)); have := bn_le (c (8 * j + 5)); have := bn_le (c (8 * j + 6)); have := bn_le (c (8 * j + 7))
  omega
theorem wt_congr {c d : Nat → Bool} {j : Nat} (h : ∀ t, t < 8 → c (8 * j + t) = d (8 * j + t)) : wt c j = wt d j := by
  unfold wt
  have h0 := h 0 (by omega); have h1 := h 1 (by omega); have h2 := h 2 (by omega); have h3 := h 3 (by omega)
  have h4 := h 4 (by omega); have h5 := h 5 (by omega); have h6 := h 6 (by omega); have h7 := h 7 (by omega)
  rw [Nat.add_zero] at h0
  rw [h0, h1, h2, h3, h4, h5, h6, h7]
/-- bit t of a byte -/
def bit (b t : Nat) : Bool := decide (b / 2 ^ t % 2 = 1)
theorem bn_bit (b t : Nat) : bn (bit b t) = b / 2 ^ t % 2 := by
  unfold bit bn
  by_cases h : b / 2 ^ t % 2 = 1
  · simp [h]
  · simp [h]; omega
theorem bits_sum : ∀ b, b < 256 → b / 2 ^ 0 % 2 + 2 * (b / 2 ^ 1 % 2) + 4 * (b / 2 ^ 2 % 2) + 8 * (b / 2 ^ 3 % 2) + 16 * (b / 2 ^ 4 % 2) + 32 * (b / 2 ^ 5 % 2) + 64 * (b / 2 ^ 6 % 2) + 128 * (b / 2 ^ 7 % 2) = b := by decide +kernel
/-- a byte is the one of its bits -/
theorem byte_bits (b : Nat) (h : b < 256) (c : Nat → Bool) (j : Nat) (hc : ∀ t, t < 8 → c (8 * j + t) = bit b t) : wt c j = b := by
  have e : ∀ t, t < 8 → bn (c (8 * j + t)) = b / 2 ^ t % 2 := fun t ht => by rw [hc t ht, bn_bit]
  have h0 := e 0 (by omega); have h1 := e 1 (by omega); have h2 := e 2 (by omega); have h3 := e 3 (by omega)
  have h4 := e 4 (by omega); have h5 := e 5 (by omega); have h6 := e 6 (by omega); have h7 := e 7 (by omega)
  rw [Nat.add_zero] at h0
  unfold wt
  rw [h0, h1, h2, h3, h4, h5, h6, h7]
  exact bits_sum b h
/-- the bits of a byte are those it was made of -/
theorem bit_wt (c : Nat → Bool) (j t : Nat) (ht : t < 8) : bit (wt c j) t = c (8 * j + t) := by
  have b0 := bn_le (c (8 * j)); have b1 := bn_le (c (8 * j + 1)); have b2 := bn_le (c (8 * j + 2)); have b3 := bn_le (c (8 * j + 3))
  have b4 := bn_le (c (8 * j + 4)); have b5 := bn_le (c (8 * j + 5)); have b6 := bn_le (c (8 * j + 6)); have b7 := bn_le (c (8 * j + 7))
  have key : bn (bit (wt c j) t) = bn (c (8 * j + t)) := by
    rw [bn_bit]
    unfold wt
    have : t = 0 ∨ t = 1 ∨ t = 2 ∨ t = 3 ∨ t = 4 ∨ t = 5 ∨ t = 6 ∨ t = 7 := by omega
    rcases this with rfl | rfl | rfl | rfl | rfl | rfl | rfl | rfl <;> simp only [Nat.reducePow, Nat.add_zero] <;> omega
  revert key
  cases bit (wt c j) t <;> cases c (8 * j + t) <;> simp [bn]

/-- n bytes of bits -/
def ofb (n : Nat) (c : Nat → Bool) : List Int := (List.range n).map fun j => ((wt c j : Nat) : Int)
theorem ofb_len (n : Nat) (c : Nat → Bool) : (ofb n c).length = n := by simp [ofb]
theorem ofb_gb (n : Nat) (c : Nat → Bool) (j : Nat) (h : j < n) : gb (ofb n c) j = ((wt c j : Nat) : Int) := by simp [gb, List.getD, ofb, h]
theorem ofb_all (n : Nat) (c : Nat → Bool) : AllB (ofb n c) := allB_mem fun x hx => by
  obtain ⟨j, _, rfl⟩ := List.mem_map.1 hx
  have := wt_lt c j
  omega
/-- bit i of bytes -/
def hs (xs : List Int) (i : Nat) : Bool := bit (gb xs (i / 8)).toNat (i % 8)
theorem hs_at (xs : List Int) (j t : Nat) (ht : t < 8) : hs xs (8 * j + t) = bit (gb xs j).toNat t := by
  unfold hs
  rw [show (8 * j + t) / 8 = j by omega, show (8 * j + t) % 8 = t by omega]
theorem hs_ofb (n : Nat) (c : Nat → Bool) (i : Nat) (h : i < 8 * n) : hs (ofb n c) i = c i := by
  unfold hs
  rw [ofb_gb n c (i / 8) (by omega), Int.toNat_natCast, bit_wt c (i / 8) (i % 8) (by omega), show 8 * (i / 8) + i % 8 = i by omega]
/-- bytes are those of their bits -/
theorem ofb_hs (xs : List Int) (h : AllB xs) (c : Nat → Bool) (hc : ∀ i, i < 8 * xs.length → c i = hs xs i) : ofb xs.length c = xs := by
  refine ext_gb (ofb_len _ _) fun j hj => ?_
  rw [ofb_len] at hj
  have hb := h j
  rw [ofb_gb _ _ j hj, byte_bits (gb xs j).toNat (by omega) c j fun t ht => by rw [hc _ (by omega), hs_at xs j t ht]]
  omega
theorem ofb_congr (n : Nat) {c d : Nat → Bool} (h : ∀ i, i < 8 * n → c i = d i) : ofb n c = ofb n d := by
  refine ext_gb (by rw [ofb_len, ofb_len]) fun j hj => ?_
  rw [ofb_len] at hj
  rw [ofb_gb n c j hj, ofb_gb n d j hj, wt_congr fun t ht => h _ (by omega)]
theorem ofb_inj (n : Nat) {c d : Nat → Bool} (h : ofb n c = ofb n d) (i : Nat) (hi : i < 8 * n) : c i = d i := by rw [← hs_ofb n c i hi, h, hs_ofb n d i hi]

/-! ### one bit -/
theorem bn_up {c d : Nat → Bool} {i k : Nat} (hk : c k = false) (hd : d k = true) (h : ∀ i, i ≠ k → d i = c i) : bn (d i) = bn (c i) + if i = k then 1 else 0 := by
  by_cases e : i = k
  · subst e; rw [hk, hd, if_pos rfl]; rfl
  · rw [h i e, if_neg e]; rfl
theorem wt_up {c d : Nat → Bool} {k : Nat} (hk : c k = false) (hd : d k = true) (h : ∀ i, i ≠ k → d i = c i) (j : Nat) : wt d j = wt c j + if j = k / 8 then 2 ^ (k % 8) else 0 := by
  unfold wt
  rw [bn_up (i := 8 * j) hk hd h, bn_up (i := 8 * j + 1) hk hd h, bn_up (i := 8 * j + 2) hk hd h, bn_up (i := 8 * j + 3) hk hd h, bn_up (i := 8 * j + 4) hk hd h, bn_up (i := 8 * j + 5) hk hd h, bn_up (i := 8 * j + 6) hk hd h, bn_up (i := 8 * j + 7) hk hd h]
  by_cases e : j = k / 8
  · rw [if_pos e]
    have : k % 8 = 0 ∨ k % 8 = 1 ∨ k % 8 = 2 ∨ k % 8 = 3 ∨ k % 8 = 4 ∨ k % 8 = 5 ∨ k % 8 = 6 ∨ k % 8 = 7 := by omega
    rcases this with q | q | q | q | q | q | q | q <;> rw [q] <;> simp only [Nat.reducePow]
    · rw [if_pos (by omega), if_neg (by omega), if_neg (by omega), if_neg (by omega), if_neg (by omega), if_neg (by omega), if_neg (by omega), if_neg (by omega)]; omega
    · rw [if_neg (by omega), if_pos (by omega), if_neg (by omega), if_neg (by omega), if_neg (by omega), if_neg (by omega), if_neg (by omega), if_neg (by omega)]; omega
    · rw [if_neg (by omega), if_neg (by omega), if_pos (by omega), if_neg (by omega), if_neg (by omega), if_neg (by omega), if_neg (by omega), if_neg (by omega)]; omega
    · rw [if_neg (by omega), if_neg (by omega), if_neg (by omega), if_pos (by omega), if_neg (by omega), if_neg (by omega), if_neg (by omega), if_neg (by omega)]; omega
    · rw [if_neg (by omega), if_neg (by omega), if_neg (by omega), if_neg (by omega), if_pos (by omega), if_neg (by omega), if_neg (by omega), if_neg (by omega)]; omega
    · rw [if_neg (by omega), if_neg (by omega), if_neg (by omega), if_neg (by omega), if_neg (by omega), if_pos (by omega), if_neg (by omega), if_neg (by omega)]; omega
    · rw [if_neg (by omega), if_neg (by omega), if_neg (by omega), if_neg (by omega), if_neg (by omega), if_neg (by omega), if_pos (by omega), if_neg (by omega)]; omega
    · rw [if_neg (by omega), if_neg (by omega), if_neg (by omega), if_neg (by omega), if_neg (by omega), if_neg (by omega), if_neg (by omega), if_pos (by omega)]; omega
  · rw [if_neg e, if_neg (by omega), if_neg (by omega), if_neg (by omega), if_neg (by omega), if_neg (by omega), if_neg (by omega), if_neg (by omega), if_neg (by omega)]
    omega
/-- a bit more: d is c with bit k besides -/
theorem ofb_up (n : Nat) {c d : Nat → Bool} {k : Nat} (hk : c k = false) (hd : d k = true) (h : ∀ i, i ≠ k → d i = c i) : (ofb n c).set (k / 8) (gb (ofb n c) (k / 8) + ((2 ^ (k % 8) : Nat) : Int)) = ofb n d := by
  refine ext_gb (by rw [List.length_set, ofb_len, ofb_len]) fun j hj => ?_
  rw [List.length_set, ofb_len] at hj
  rw [ofb_gb n d j hj, wt_up hk hd h j]
  by_cases e : j = k / 8
  · subst e
    rw [if_pos rfl, ofb_gb n c _ hj]
    simp [gb, List.getD, ofb_len, hj]
  · rw [if_neg e, Nat.add_zero, ← ofb_gb n c j hj]
    simp [gb, List.getD, Ne.symm e]
/-- a bit less: c is d without bit k -/
theorem ofb_down (n : Nat) {c d : Nat → Bool} {k : Nat} (hn : k < 8 * n) (hk : c k = false) (hd : d k = true) (h : ∀ i, i ≠ k → d i = c i) : (ofb n d).set (k / 8) (gb (ofb n d) (k / 8) - ((2 ^ (k % 8) : Nat) : Int)) = ofb n c ∧ ((2 ^ (k % 8) : Nat) : Int) ≤ gb (ofb n d) (k / 8) := by
  have W := wt_up hk hd h
  generalize 2 ^ (k % 8) = q at *
  refine ⟨?_, ?_⟩
  · refine ext_gb (by rw [List.length_set, ofb_len, ofb_len]) fun j hj => ?_
    rw [List.length_set, ofb_len] at hj
    rw [ofb_gb n c j hj]
    have w := W j
    by_cases e : j = k / 8
    · subst e
      rw [if_pos rfl] at w
      rw [ofb_gb n d _ hj]
      simp [gb, List.getD, ofb_len, hj]
      omega
    · rw [if_neg e, Nat.add_zero] at w
      rw [← w, ← ofb_gb n d j hj]
      simp [gb, List.getD, Ne.symm e]
  · rw [ofb_gb n d _ (by omega)]
    have w := W (k / 8)
    rw [if_pos rfl] at w
    omega

/-! ### all of two -/
theorem bit_test (b t : Nat) : bit b t = b.testBit t := by rw [Nat.testBit_eq_decide_div_mod_eq]; rfl
theorem and_wt (a b : Nat) (ha : a < 256) (c : Nat → Bool) (j : Nat) (hc : ∀ t, t < 8 → c (8 * j + t) = (bit a t && bit b t)) : a &&& b = wt c j := by
  refine (byte_bits (a &&& b) (Nat.lt_of_le_of_lt Nat.and_le_left ha) c j fun t ht => ?_).symm
  rw [hc t ht, bit_test, bit_test, bit_test, Nat.testBit_and]
/-- the bytes of 'a & b' -/
theorem ands_ofb (xs ys : List Int) (hx : AllB xs) (j : Nat) : (((gb xs j).toNat &&& (gb ys j).toNat : Nat) : Int) = ((wt (fun i => hs xs i && hs ys i) j : Nat) : Int) := by
  have hb := hx j
  rw [and_wt (gb xs j).toNat (gb ys j).toNat (by omega) (fun i => hs xs i && hs ys i) j fun t ht => by rw [hs_at xs j t ht, hs_at ys j t ht]]

/-! ### what a mask says -/
/-- bit i of a mask that is bytes again and again -/
def mk (m : List Int) (i : Nat) : Bool := m.length == 0 || bit (gb m (i / 8 % m.length)).toNat (i % 8)
/-- which bits a program was to clear -/
def due (was tz : List Int) (i : Nat) : Bool := hs was i && !hs tz i
/-- which bits are there behind a program that is torn -/
def torn (was tz m : List Int) (i : Nat) : Bool := hs was i && !(due was tz i && mk m i)
/-- i is the last of the first n bits that was to be cleared -/
def isLast (was tz : List Int) (n i : Nat) : Prop := i < n ∧ due was tz i = true ∧ ∀ k, k < n → i < k → due was tz k = false
/-- the last of the first n bits that was to be cleared, and one; nought: there is none -/
def lst (was tz : List Int) : Nat → Nat
  | 0 => 0
  | n + 1 => if due was tz n then n + 1 else lst was tz n
theorem lst_le (was tz : List Int) (n : Nat) : lst was tz n ≤ n := by
  induction n with
  | zero => exact Nat.le_refl _
  | succ n ih =>
    unfold lst
    split <;> omega
theorem lst_due (was tz : List Int) (n : Nat) (h : 0 < lst was tz n) : due was tz (lst was tz n - 1) = true := by
  induction n with
  | zero => simp [lst] at h
  | succ n ih =>
    unfold lst at h ⊢
    by_cases e : due was tz n = true
    · rw [if_pos e, Nat.add_sub_cancel]; exact e
    · rw [if_neg e] at h ⊢
      exact ih h
theorem lst_past (was tz : List Int) (n k : Nat) (hk : k < n) (h : lst was tz n ≤ k) : due was tz k = false := by
  induction n with
  | zero => omega
  | succ n ih =>
    unfold lst at h
    by_cases e : due was tz n = true
    · rw [if_pos e] at h; omega
    · rw [if_neg e] at h
      by_cases q : k = n
      · subst q; simpa using e
      · exact ih (by omega) h
/-- which bits are there behind a program that fails -/
def failed (was tz m : List Int) (n i : Nat) : Bool := hs was i && !(due was tz i && mk m i && !(i + 1 == lst was tz n))
/-- programs only clear -/
theorem torn_sub (was tz m : List Int) (i : Nat) : (torn was tz m i && hs was i) = torn was tz m i := by unfold torn; cases hs was i <;> simp
theorem failed_sub (was tz m : List Int) (n i : Nat) : (failed was tz m n i && hs was i) = failed was tz m n i := by unfold failed; cases hs was i <;> simp
/-- with an empty mask all is done -/
theorem torn_whole (was tz : List Int) (i : Nat) : torn was tz [] i = (hs was i && hs tz i) := by unfold torn due mk; cases hs was i <;> cases hs tz i <;> simp
/-- one that fails does all only where there is nothing to do -/
theorem failed_whole (was tz m : List Int) (n : Nat) : (∀ i, i < n → failed was tz m n i = (hs was i && hs tz i)) ↔ ∀ i, i < n → hs was i = (hs was i && hs tz i) := by
  constructor
  · intro h
    have hz : lst was tz n = 0 := by
      rcases Nat.eq_zero_or_pos (lst was tz n) with q | q
      · exact q
      · have hd := lst_due was tz n q
        have hle := lst_le was tz n
        have := h (lst was tz n - 1) (by omega)
        unfold failed at this
        rw [show lst was tz n - 1 + 1 = lst was tz n by omega] at this
        unfold due at hd this
        revert hd this
        cases hs was (lst was tz n - 1) <;> cases hs tz (lst was tz n - 1) <;> simp
    intro i hi
    have := lst_past was tz n i hi (by omega)
    unfold due at this
    revert this
    cases hs was i <;> cases hs tz i <;> simp
  · intro h i hi
    have := h i hi
    unfold failed due
    revert this
    cases hs was i <;> cases hs tz i <;> simp
/-- which bits are there behind an erase that is torn -/
def erased (was m : List Int) (i : Nat) : Bool := hs was i || mk m i
theorem erased_sup (was m : List Int) (i : Nat) : (erased was m i && hs was i) = hs was i := by unfold erased; cases hs was i <;> simp
theorem erased_whole (was : List Int) (i : Nat) : erased was [] i = true := by unfold erased mk; cases hs was i <;> simp
theorem ofb_full (n : Nat) (c : Nat → Bool) (h : ∀ i, i < 8 * n → c i = true) : ofb n c = List.replicate n 255 := by
  refine ext_gb (by rw [ofb_len, List.length_replicate]) fun j hj => ?_
  rw [ofb_len] at hj
  rw [ofb_gb n c j hj]
  have e : wt c j = 255 := by
    rw [wt_congr (d := fun _ => true) fun t ht => h _ (by omega)]
    rfl
  rw [e]
  simp [gb, List.getD, hj]
end Go.Proofs.YtmbfccclghnaeaaDoor.fa

/- What octet's Fill and the reference's Fill answer: so many of any byte. No claim of its own. -/
namespace Go.Proofs.YtmbfccclghnaeaaDoor
open Go.RowKit
set_option maxRecDepth 20000

/-- n, taken as 0 if below and as m if above -/
def clamp (n m : Int) : Nat := (min (max n 0) m).toNat
theorem clamp_le (n m : Int) (h : 0 ≤ m) : ((clamp n m : Nat) : Int) ≤ m := by unfold clamp; omega

theorem within_any (n m : Int) (w : World) (hm : 0 ≤ m) :
    Calls Tryd.prog 55 #[.int .i64 n, .int .i64 m] w fun e w' => e = .returned (.int .i64 (clamp n m)) ∧ w' = w := by
  have hc : ((clamp n m : Nat) : Int) = min (max n 0) m := by unfold clamp; omega
  have HC : Hid (((clamp n m : Nat) : Int) = min (max n 0) m) := hc
  clear hc
  go_enter Tryd.func55, Tryd.ntmps55
  go_wp2
  all_goals
    go_ret
    exact ⟨ret_int (by rw [HC.out]; omega), rfl⟩

def fillAt (x : Int) (s k : Nat) : List Int := List.replicate k x ++ List.replicate (s - k) 0
theorem fillAt_set (x : Int) (s k : Nat) (h : k < s) : (fillAt x s k).set k x = fillAt x s (k + 1) := by
  unfold fillAt
  obtain ⟨d, hd⟩ : ∃ d, s - k = d + 1 := ⟨s - k - 1, by omega⟩
  have e : s - (k + 1) = d := by omega
  rw [hd, e, List.set_append_right _ _ (by simp)]
  simp only [List.length_replicate, Nat.sub_self, List.replicate_succ, List.set_cons_zero]
  rw [← List.replicate_succ, List.replicate_succ', List.append_assoc]; rfl
theorem fillAt_end (x : Int) (s : Nat) : fillAt x s s = List.replicate s x := by simp [fillAt]
theorem allB_replicate (x : Int) (n : Nat) (h : 0 ≤ x ∧ x ≤ 255) : AllB (List.replicate n x) := allB_mem fun y hy => by
  rw [(List.mem_replicate.1 hy).2]; exact h

set_option maxHeartbeats 1000000 in
theorem rfill_any (x n : Int) (w : World) (hx : 0 ≤ x ∧ x ≤ 255) :
    Calls Tryd.prog 40 #[.int .u8 x, .int .i64 n] w fun e w' => ∃ v, e = .returned v ∧ Byt w' v (List.replicate (clamp n 65536) x) ∧ Below w.heap.size w w' := by
  have hs : ((clamp n 65536 : Nat) : Int) = min (max n 0) 65536 := by unfold clamp; omega
  generalize hsd : clamp n 65536 = s at hs
  have HS : Hid ((s : Int) = min (max n 0) 65536) := hs
  have hs1 : s ≤ 65536 := by omega
  clear hsd hs
  go_enter Tryd.func40, Tryd.ntmps40
  go_wp2
  go_loopw [5, 6] (fun v i wr => ∃ k : Nat, k ≤ s ∧ i = .int .i64 k ∧ Own w.heap.size wr v (List.replicate k x) ∧ Below w.heap.size w wr) (fun _ i _ => s - (intOf i).toNat)
  case atStart => exact ⟨0, Nat.zero_le _, rfl, Own.empty w (Nat.le_refl _), (Below.refl _ _).alloc (Nat.le_refl _) _⟩
  case round =>
    obtain ⟨k, hk, rfl, hown, hbel⟩ := hrel
    have hsz := hbel.size
    by_cases hlt : k < s
    · have h1 : (k : Int) < n := by have := HS.out; omega
      have h2 : (k : Int) < 65536 := by omega
      go_wp2_with (at_builtin; refine push_law wr rfl (.tmp 17) (.tmp 19) rfl w.heap.size (by omega) _ _ x rfl rfl hown (by simp; omega) ?_; intro v' w1 hown' hbel')
      rw [← List.replicate_succ'] at hown'
      go_roundw
      case rel => exact ⟨k + 1, by omega, by go_num, hown', hbel.trans hbel'⟩
      case measure => simp [intOf]; omega
    · have hks : k = s := by omega
      subst hks
      by_cases h1 : (k : Int) < n
      · have h2 : ¬ (k : Int) < 65536 := by have := HS.out; omega
        go_wp2
        go_ret
        exact ⟨_, rfl, hown.byt (allB_replicate _ _ hx), hbel⟩
      · go_wp2
        go_ret
        exact ⟨_, rfl, hown.byt (allB_replicate _ _ hx), hbel⟩
end Go.Proofs.YtmbfccclghnaeaaDoor

/- What a mask says of a bit: fault's closure over a mask and Bit, and the reference's power, Has and Bit. No claim of its own. -/
namespace Go.Proofs.YtmbfccclghnaeaaDoor.fa
open Go.RowKit
set_option maxRecDepth 20000

theorem byt_drawn {w : World} {v : Value} {xs : List Int} (h : Byt w v xs) (m : Nat) : Byt (w.drewN m) v xs := h
theorem below_drawn {B : Nat} {w w' : World} (h : Below B w w') (n : Nat) : Below B w (w'.drewN n) := ⟨h.os, h.tape, h.output, h.size, h.block⟩

/-- a variable: one value has a place of its own at c -/
def Var (w : World) (c : Nat) (v : Value) : Prop := w.cell? ⟨c, 0, none⟩ = some v ∧ w.frozen? ⟨c, 0, none⟩ = false
theorem Var.new (w : World) (v : Value) (t : TypeId) : Var (w.alloc (.cells #[v] t)) w.heap.size v := ⟨World.cell?_alloc_at _ _ _ _ rfl, World.frozen?_alloc_at _ _ _ _ rfl⟩
theorem Var.lt {w : World} {c : Nat} {v : Value} (h : Var w c v) : c < w.heap.size := World.block_lt_of_cell? w _ h.1
theorem Var.below {w w' : World} {c B : Nat} {v : Value} (h : Var w c v) (hb : Below B w w') (hc : c < B) : Var w' c v := ⟨by rw [hb.cell hc]; exact h.1, by rw [hb.frozen hc]; exact h.2⟩
theorem Var.set {w : World} {c : Nat} {v : Value} (h : Var w c v) (u : Value) : Var (w.setCell ⟨c, 0, none⟩ u) c u := ⟨World.cell?_setCell_same _ _ _ h.1, by rw [World.frozen?_setCell]; exact h.2⟩
theorem byt_form {w : World} {v : Value} {xs : List Int} (h : Byt w v xs) : ∃ ao cap, v = .slice ao xs.length cap := by
  obtain ⟨ao, cap, rfl, _⟩ := h
  exact ⟨ao, cap, rfl⟩
/-- bytes last where a cell is written that is no byte -/
theorem byt_other {w : World} {v u old : Value} {xs : List Int} {p : Addr} (h : Byt w v xs) (hc : w.cell? p = some old) (ho : ∀ x, old ≠ .int .u8 x) : Byt (w.setCell p u) v xs := by
  obtain ⟨ao, cap, rfl, h1, h2, h3, h4, h5⟩ := h
  refine ⟨ao, cap, rfl, h1, h2, h3, h4, fun hp => ?_⟩
  obtain ⟨b, off, rfl, hb⟩ := h5 hp
  refine ⟨b, off, rfl, fun t ht => ?_⟩
  rw [World.cell?_setCell_other _ _ _ _ (by intro e; rw [e] at hc; rw [hb t ht] at hc; injection hc with hc; exact ho _ hc.symm)]
  exact hb t ht

/-- the bytes of a mask; of an empty one a byte of ones -/
def ms (m : List Int) : List Int := if m.length = 0 then [255] else m
theorem ms_pos (m : List Int) : 0 < (ms m).length := by
  unfold ms
  split
  · decide
  · omega
theorem ms_all {m : List Int} (h : AllB m) : AllB (ms m) := by
  unfold ms
  split
  · exact allB_mem fun x hx => by simp at hx; omega
  · exact h
/-- what a mask says of byte i -/
def mb (m : List Int) (i : Nat) : Int := gb (ms m) (i % (ms m).length)
theorem mb_bd {m : List Int} (h : AllB m) (i : Nat) : 0 ≤ mb m i ∧ mb m i ≤ 255 := ms_all h _
theorem bit255 : ∀ t, t < 8 → bit 255 t = true := by decide
theorem mb_mk (m : List Int) (i : Nat) : mk m i = bit (mb m (i / 8)).toNat (i % 8) := by
  unfold mk mb ms
  by_cases h : m.length = 0
  · rw [if_pos h, h, show [(255 : Int)].length = 1 from rfl, Nat.mod_one]
    show (true || _) = bit 255 (i % 8)
    rw [bit255 _ (by omega), Bool.true_or]
  · rw [if_neg h, show (m.length == 0) = false by simpa using h, Bool.false_or]

/-- the variable at c tells of the mask m -/
def Say (w : World) (c : Nat) (m : List Int) : Prop := ∃ sv, w.cell? ⟨c, 0, none⟩ = some sv ∧ Byt w sv (ms m)
theorem Say.lt {w : World} {c : Nat} {m : List Int} (h : Say w c m) : c < w.heap.size := by
  obtain ⟨sv, h1, _⟩ := h
  exact World.block_lt_of_cell? w _ h1
theorem Say.below {w w' : World} {c : Nat} {m : List Int} (h : Say w c m) (hb : Below w.heap.size w w') : Say w' c m := by
  have hl := h.lt
  obtain ⟨sv, h1, h2⟩ := h
  exact ⟨sv, by rw [hb.cell hl]; exact h1, h2.below hb⟩
end Go.Proofs.YtmbfccclghnaeaaDoor.fa

/- Rows of bytes of the call's own, with room behind: read, written, appended to. No claim of its own. -/
namespace Go.Proofs.YtmbfccclghnaeaaDoor.fa
open Go.RowKit
set_option maxRecDepth 20000

/-- the row g owns n bytes, and has room for cap -/
def OwnC (B : Nat) (w : World) (g n cap : Nat) (xs : List Int) : Prop := xs.length = n ∧ B ≤ g ∧ w.ownsRow B 5 1 (.slice (some ⟨g, 0, none⟩) n cap) n (xs.map (Value.int .u8))
theorem OwnC.cell {B : Nat} {w : World} {g n cap : Nat} {xs : List Int} (h : OwnC B w g n cap xs) {k : Nat} (hk : k < n) : w.cell? ⟨g, k, none⟩ = some (.int .u8 (gb xs k)) := by
  rw [h.2.2.cellAt k (by omega)]
  have := h.1
  simp [gb, List.getD, show k < xs.length by omega]
theorem OwnC.free {B : Nat} {w : World} {g n cap : Nat} {xs : List Int} (h : OwnC B w g n cap xs) (k : Nat) : w.frozen? ⟨g, k, none⟩ = false := h.2.2.frozenAt k
theorem OwnC.set {B : Nat} {w : World} {g n cap : Nat} {xs : List Int} (h : OwnC B w g n cap xs) (k : Nat) (x : Int) : OwnC B (w.setCell ⟨g, k, none⟩ (.int .u8 x)) g n cap (xs.set k x) :=
  ⟨by simpa using h.1, h.2.1, by have := (h.2.2.stored k (.int .u8 x)).1; rwa [← List.map_set] at this⟩
theorem OwnC.drewN {B : Nat} {w : World} {g n cap : Nat} {xs : List Int} (h : OwnC B w g n cap xs) (m : Nat) : OwnC B (w.drewN m) g n cap xs := h
theorem OwnC.own {B : Nat} {w : World} {g n cap : Nat} {xs : List Int} (h : OwnC B w g n cap xs) : Own B w (.slice (some ⟨g, 0, none⟩) n cap) xs := by
  have h1 := h.1
  subst h1
  exact h.2.2
theorem own_row {B : Nat} {w : World} {v : Value} {xs : List Int} (h : Own B w v xs) (hp : 0 < xs.length) : ∃ g cap, v = .slice (some ⟨g, 0, none⟩) xs.length cap ∧ OwnC B w g xs.length cap xs := by
  rcases h.2 with ⟨_, hn⟩ | ⟨g, cap, cur, rfl, hg, hr⟩
  · omega
  · exact ⟨g, cap, rfl, rfl, hg, h⟩
theorem own_drewN {B : Nat} {w : World} {v : Value} {xs : List Int} (h : Own B w v xs) (m : Nat) : Own B (w.drewN m) v xs := h

/-- 'append(s, x...)', s of the call's own -/
theorem pushs_law {ops : Array Oper} {rest : List Oper} {o : Oper} {a : Act} {Q : Exit → Act → World → Prop} (w : World) (hg : o.guard = none) (s x : Operand) (hop : o.op = .call { callee := .builtin .append, args := #[s, x], argTypes := #[23, 23] })
    (B : Nat) (hB : B ≤ w.heap.size) (v vy : Value) (xs ys : List Int) (hs : a.eval s = v) (hx : a.eval x = vy) (hown : Own B w v xs) (hy : Byt w vy ys) (hm : xs.length + ys.length ≤ 140737488355328)
    (hK : ∀ v' w', Own B w' v' (xs ++ ys) → Below B w w' → wpList Tryd.prog ops Q rest (a.put o.dst v') w') :
    wpList Tryd.prog ops Q (o :: rest) a w := by
  obtain ⟨i0, hi, hz0, hz1, hz2⟩ := info_parts info_u8
  obtain ⟨ao, cap, rfl, h1, h2, h3, h4, h5⟩ := hy
  cases ao with
  | none =>
    have hc := h4 rfl
    subst hc
    have : ys = [] := List.eq_nil_of_length_eq_zero (by omega)
    subst this
    refine wpList_append_own_none hg s x 23 hop B 5 i0 1 Tryd.underlying23 hi v xs.length _ hs hown hx (hK v w ?_ (Below.refl _ _))
    rwa [List.append_nil]
  | some ad =>
    refine wpList_append_own _ hg s x 23 hop B 5 i0 (.int .u8 0) 1 1 Tryd.underlying23 hi hz0 hz1 hz2 rfl (by decide) v xs.length _ hs hown ad ys.length cap (ys.map (Value.int .u8)) hx (by simp) ?_ ?_ (by simp only [maxLen]; omega) (by omega) hB fun v' w' h1 h2 _ => ?_
    · intro j u hj
      have hjl : j < ys.length := by have := (List.getElem?_eq_some_iff.1 hj).1; simpa using this
      obtain ⟨b, off, e, hc⟩ := h5 (by omega)
      cases e
      rw [Addr.add_mid, hc j hjl, ← hj]
      simp [gb, List.getD, hjl]
    · intro u hu
      simp only [List.mem_map] at hu
      obtain ⟨y, _, rfl⟩ := hu
      rfl
    · refine hK v' w' ?_ ?_
      · show w'.ownsRow B 5 1 v' (xs ++ ys).length ((xs ++ ys).map (Value.int .u8))
        simpa using h1
      · exact (Below.refl B w).grown h2 hB fun k hk => (World.ownsRow.lt hown k hk).1
end Go.Proofs.YtmbfccclghnaeaaDoor.fa

/- Structs of any cells in a place of their own: read, written. No claim of its own. -/
namespace Go.Proofs.YtmbfccclghnaeaaDoor.he
open Go.RowKit Go.Proofs.YtmbfccclghnaeaaDoor.fa
set_option maxRecDepth 20000

/-- a variable at c that holds the cells cs -/
def Vr (w : World) (c : Nat) (cs : List Value) : Prop := w.rangeAt c 0 cs ∧ w.there c 0 cs.length
theorem range_heap {w w' : World} {b p : Nat} {cs : List Value} (h : w.rangeAt b p cs) (e : w'.heap[b]? = w.heap[b]?) : w'.rangeAt b p cs := fun j v hv => by
  rw [World.cell?_of_block (w := w) (w' := w') (a := ⟨b, p + j, none⟩) e]; exact h j v hv
theorem there_heap {w w' : World} {b p n : Nat} (h : w.there b p n) (e : w'.heap[b]? = w.heap[b]?) : w'.there b p n := fun j hj => by
  rw [World.cell?_of_block (w := w) (w' := w') (a := ⟨b, p + j, none⟩) e, World.frozen?_of_block (w := w) (w' := w') (a := ⟨b, p + j, none⟩) e]
  exact h j hj
theorem range_lt {w : World} {b p : Nat} {cs : List Value} (h : w.rangeAt b p cs) (hp : 0 < cs.length) : b < w.heap.size := World.block_lt_of_cell? w _ (h 0 _ (List.getElem?_eq_getElem hp))
theorem Vr.heap {w w' : World} {c : Nat} {cs : List Value} (h : Vr w c cs) (e : w'.heap[c]? = w.heap[c]?) : Vr w' c cs := ⟨range_heap h.1 e, there_heap h.2 e⟩
theorem Vr.below {w w' : World} {c B : Nat} {cs : List Value} (h : Vr w c cs) (hb : Below B w w') (hc : c < B) : Vr w' c cs := h.heap (hb.block c hc)
theorem Vr.drewN {w : World} {c : Nat} {cs : List Value} (h : Vr w c cs) (n : Nat) : Vr (w.drewN n) c cs := h.heap rfl
theorem Vr.other {w : World} {c b o : Nat} {cs : List Value} (h : Vr w c cs) (u : Value) (hp : c ≠ b) : Vr (w.setCell ⟨b, o, none⟩ u) c cs := h.heap (Below.heap_setCell w ⟨b, o, none⟩ u c hp)
theorem Vr.cell {w : World} {c : Nat} {cs : List Value} (h : Vr w c cs) (j : Nat) (v : Value) (hv : cs[j]? = some v) : w.cell? ⟨c, j, none⟩ = some v := by
  have := h.1 j v hv
  rwa [Nat.zero_add] at this
theorem Vr.free {w : World} {c : Nat} {cs : List Value} (h : Vr w c cs) (j : Nat) (hj : j < cs.length) : w.frozen? ⟨c, j, none⟩ = false := by
  have := (h.2 j hj).2
  rwa [Nat.zero_add] at this
theorem Vr.set {w : World} {c : Nat} {cs : List Value} (h : Vr w c cs) (j : Nat) (hj : j < cs.length) (u : Value) : Vr (w.setCell ⟨c, j, none⟩ u) c (cs.set j u) := by
  have hc := h.cell j _ (List.getElem?_eq_getElem hj)
  refine ⟨fun i v hv => ?_, fun i hi => ?_⟩
  · rw [Nat.zero_add]
    rw [List.getElem?_set] at hv
    by_cases e : j = i
    · subst e
      rw [if_pos rfl, if_pos hj] at hv
      cases hv
      exact World.cell?_setCell_same _ _ _ hc
    · rw [if_neg e] at hv
      rw [World.cell?_setCell_other _ _ _ _ (by intro q; injection q with _ q2; omega)]
      exact h.cell i v hv
  · rw [List.length_set] at hi
    rw [Nat.zero_add]
    refine ⟨?_, by rw [World.frozen?_setCell]; exact h.free i hi⟩
    by_cases e : j = i
    · subst e
      rw [World.cell?_setCell_same _ _ _ hc]; rfl
    · rw [World.cell?_setCell_other _ _ _ _ (by intro q; injection q with _ q2; omega), h.cell i _ (List.getElem?_eq_getElem hi)]; rfl
theorem Vr.new (w : World) (t : TypeId) (cs : List Value) : Vr (w.alloc (.cells cs.toArray t)) w.heap.size cs := by
  have e := fun j => cell_of_row (w.alloc (.cells cs.toArray t)) w.heap.size j _ t (0, 0) (heap_alloc_last w _)
  refine ⟨fun j v hv => by rw [Nat.zero_add, e]; simpa using hv, fun j hj => ⟨?_, World.frozen?_alloc_at _ _ _ _ rfl⟩⟩
  rw [Nat.zero_add, e]
  simp [hj]

/-- a type of structs (or of arrays) of n cells -/
def Rowy (t : TypeId) (n : Nat) : Prop := (∃ d, Tryd.prog.underlying t = some d ∧ d.isRow = true) ∧ (Tryd.prog.info? t).map (·.size) = some n
theorem run_loadC {w : World} {b p : Nat} {t : TypeId} {cs : List Value} (ht : Rowy t cs.length) (h : w.rangeAt b p cs) : (loadVar t ⟨b, p, none⟩).run Tryd.prog w = .ok (.agg cs.toArray) w := by
  obtain ⟨⟨d, hu, hd⟩, hs⟩ := ht
  exact run_loadVar_mid (P := Tryd.prog) w b p t _ _ h hu hd hs
theorem load_cells {w : World} {b p : Nat} {t : TypeId} {cs : List Value} (ht : Rowy t cs.length) (h : w.rangeAt b p cs) : (Instr.loadAt t (.pointer (some ⟨b, p, none⟩))).run Tryd.prog w = .ok (.agg cs.toArray) w := by
  simp only [Instr.loadAt, Instr.sureAddr, Sem.run_bind, Sem.run_pure, Result.andThen_ok, run_loadC ht h]
theorem results_c {fn : Func} {p : Tmp} {t : TypeId} (h : fn.results = #[.cell p t]) (tmps : Array Value) (w : World) (b : Nat) (cs : List Value) (ht : Rowy t cs.length) (hp : tmps.getD p undef = .pointer (some ⟨b, 0, none⟩)) (ha : w.rangeAt b 0 cs) : (results fn tmps).run Tryd.prog w = .ok (.agg cs.toArray) w := by
  have hp' : tmps[p]?.getD undef = .pointer (some ⟨b, 0, none⟩) := by simpa using hp
  simp [results, h, hp', asAddr, run_loadC ht ha]
theorem results_cv {fn : Func} {p q : Tmp} {t : TypeId} (h : fn.results = #[.cell p t, .tmp q]) (tmps : Array Value) (w : World) (b : Nat) (cs : List Value) (v : Value) (ht : Rowy t cs.length) (hp : tmps.getD p undef = .pointer (some ⟨b, 0, none⟩)) (hq : tmps.getD q undef = v) (ha : w.rangeAt b 0 cs) : (results fn tmps).run Tryd.prog w = .ok (.tuple #[.agg cs.toArray, v]) w := by
  have hp' : tmps[p]?.getD undef = .pointer (some ⟨b, 0, none⟩) := by simpa using hp
  have hq' : tmps[q]?.getD undef = v := by simpa using hq
  simp [results, h, hp', hq', asAddr, run_loadC ht ha]

section
variable {ops : Array Oper} {rest : List Oper} {a : Act} {Q : Exit → Act → World → Prop}
/-- a struct gets a place -/
theorem box_lawC {d : Option Tmp} {x : Operand} {t ty : TypeId} {pos : String} {af : Array Edge} (w : World) (cs : List Value) (hx : a.eval x = .agg cs.toArray)
    (hK : ∀ w', Vr w' w.heap.size cs → Below w.heap.size w w' → w.heap.size < w'.heap.size → wpList Tryd.prog ops Q rest (a.put d (.pointer (some ⟨w.heap.size, 0, none⟩))) w') :
    wpList Tryd.prog ops Q (⟨d, Op.box t x, ty, pos, af, none⟩ :: rest) a w := by
  refine wpList_plain rfl fun K hK' => ?_
  unfold Oper.wp
  simp [execOp, hx, Instr.box, newVar, newRow, Value.cells, Result.andThen]
  exact hK' _ _ (hK _ (Vr.new w t cs) ((Below.refl _ _).alloc (Nat.le_refl _) _) (by simp))
/-- a variable for a struct -/
theorem new_lawC {d : Option Tmp} {t ty : TypeId} {pos : String} {af : Array Edge} (w : World) (cs : List Value) (hz : (Tryd.prog.info? t).map (fun i => (i.zero, i.size)) = some (some (.agg cs.toArray), cs.length))
    (hK : ∀ w', Vr w' w.heap.size cs → Below w.heap.size w w' → w.heap.size < w'.heap.size → wpList Tryd.prog ops Q rest (a.put d (.pointer (some ⟨w.heap.size, 0, none⟩))) w') :
    wpList Tryd.prog ops Q (⟨d, Op.alloc t, ty, pos, af, none⟩ :: rest) a w := by
  refine wpList_plain rfl fun K hK' => ?_
  have hz' := (zero_of_info hz).1
  unfold Oper.wp
  simp [execOp, Instr.alloc, hz', newVar, newRow, Value.cells, Result.andThen]
  exact hK' _ _ (hK _ (Vr.new w t cs) ((Below.refl _ _).alloc (Nat.le_refl _) _) (by simp))
/-- a struct is written -/
theorem store_lawC {d : Option Tmp} {x y : Operand} {t ty : TypeId} {pos : String} {af : Array Edge} (w : World) (cs : List Value) (b p : Nat) (hx : a.eval x = .pointer (some ⟨b, p, none⟩)) (hy : a.eval y = .agg cs.toArray) (ht : w.there b p cs.length) (hs : (Tryd.prog.info? t).map (·.size) = some cs.length) (h1 : ∀ v ∈ cs, v.oneCell' = true)
    (hK : ∀ w', Hid (w' = w.setCells b p cs) → w'.rangeAt b p cs → w'.there b p cs.length → Below b w w' → wpList Tryd.prog ops Q rest (a.put d undef) w') :
    wpList Tryd.prog ops Q (⟨d, Op.store t x y, ty, pos, af, none⟩ :: rest) a w := by
  refine wpList_store_mid rfl t x y rfl b p cs.toArray hx hy (by simpa using ht) (by simpa using hs) (all_oneCell_toArray h1) ?_
  exact hK _ rfl (World.rangeAt_setCells_same w b p cs ht) (World.there_setCells ht b p _) (below_cells _ (Nat.le_refl _) _ _ (Below.refl _ _))
end

theorem results_cvv {fn : Func} {p q r : Tmp} {t : TypeId} (h : fn.results = #[.cell p t, .tmp q, .tmp r]) (tmps : Array Value) (w : World) (b : Nat) (cs : List Value) (v u : Value) (ht : Rowy t cs.length) (hp : tmps.getD p undef = .pointer (some ⟨b, 0, none⟩)) (hq : tmps.getD q undef = v) (hr : tmps.getD r undef = u) (ha : w.rangeAt b 0 cs) : (results fn tmps).run Tryd.prog w = .ok (.tuple #[.agg cs.toArray, v, u]) w := by
  have hp' : tmps[p]?.getD undef = .pointer (some ⟨b, 0, none⟩) := by simpa using hp
  have hq' : tmps[q]?.getD undef = v := by simpa using hq
  have hr' : tmps[r]?.getD undef = u := by simpa using hr
  simp [results, h, hp', hq', hr', asAddr, run_loadC ht ha]

/-- a head's cells -/
def hv (k n c l e t : Int) : List Value := [.int .i64 k, .int .i64 n, .int .i64 c, .int .u32 l, .int .u64 e, .int .u64 t]

theorem hv_one (k n c l e t : Int) : ∀ v ∈ hv k n c l e t, v.oneCell' = true := fun v hv' => by
  simp [hv] at hv'
  rcases hv' with rfl | rfl | rfl | rfl | rfl | rfl <;> rfl

/-- an array's element -/
theorem idx_law {ops : Array Oper} {rest : List Oper} {o : Oper} {a : Act} {Q : Exit → Act → World → Prop} (w : World) (hg : o.guard = none) (x y : Operand) (t : TypeId) (hop : o.op = Op.index t x y) (v i q : Value) (hx : a.eval x = v) (hy : a.eval y = i)
    (hr : (Instr.index t v i).run Tryd.prog w = .ok q w) (hK : wpList Tryd.prog ops Q rest (a.put o.dst q) w) : wpList Tryd.prog ops Q (o :: rest) a w := by
  refine wpList_plain hg fun K hK' => ?_
  unfold Oper.wp execOp
  simp only [hop, hx, hy, Sem.run_bind, Sem.run_pure, Result.andThen_ok, hr]
  exact hK' _ _ hK
end Go.Proofs.YtmbfccclghnaeaaDoor.he

/- What octet's Num answers: the number of the last eight bytes. No claim of its own. -/
namespace Go.Proofs.YtmbfccclghnaeaaDoor
open Go.RowKit
set_option maxRecDepth 20000

/-- the number of bytes, the greatest first, of sixty-four bits -/
def num : List Int → Int := fun xs => xs.foldl (fun n x => (n * 256) % 18446744073709551616 + x) 0
theorem num_snoc (xs : List Int) (x : Int) : num (xs ++ [x]) = (num xs * 256) % 18446744073709551616 + x := by simp [num]
/-- the last eight -/
def last8 (xs : List Int) : List Int := xs.drop (xs.length - 8)
theorem last8_len (xs : List Int) : (last8 xs).length = min xs.length 8 := by simp [last8]; omega
theorem gb_drop (xs : List Int) (d k : Nat) : gb (xs.drop d) k = gb xs (d + k) := by simp [gb, List.getD]
theorem take_snoc_gb (xs : List Int) (k : Nat) (h : k < xs.length) : xs.take (k + 1) = xs.take k ++ [gb xs k] := by
  rw [List.take_succ_eq_append_getElem h]; simp [gb, List.getD, h]
theorem num_bd (xs : List Int) (h : AllB xs) (k : Nat) (hk : k ≤ xs.length) : 0 ≤ num (xs.take k) ∧ num (xs.take k) ≤ 18446744073709551615 := by
  induction k with
  | zero => simp [num]
  | succ k ih =>
    rw [take_snoc_gb xs k (by omega), num_snoc]
    have := h k
    omega
theorem shl_or (n x : Int) (hx : 0 ≤ x ∧ x ≤ 255) : bits .or .u64 (IntKind.u64.wrap (n * 256)) (IntKind.u64.wrap x) = (n * 256) % 18446744073709551616 + x := by
  have hw : IntKind.u64.wrap x = x := by rw [IntKind.wrap_u64]; omega
  rw [hw, IntKind.wrap_u64]
  have h0 : 0 ≤ n * 256 % 18446744073709551616 := Int.emod_nonneg _ (by decide)
  have h1 : n * 256 % 18446744073709551616 < 18446744073709551616 := Int.emod_lt_of_pos _ (by decide)
  rw [u64_or _ _ h0 h1 hx.1 (by omega), nat_join 8 _ _ (by omega) (by omega)]
  omega

set_option maxHeartbeats 2000000 in
theorem num_any (v : Value) (xs : List Int) (w : World) (hb : Byt w v xs) :
    Calls Tryd.prog 37 #[v] w fun e w' => e = .returned (.int .u64 (num (last8 xs))) ∧ w' = w := by
  have HB := hb
  obtain ⟨ao, cap, rfl, h1, h2, -, -, -⟩ := hb
  have HBB : Hid (Byt w (.slice ao xs.length cap) xs) := HB
  clear HB
  generalize hys : last8 xs = ys
  have hs : ((clamp (xs.length : Int) 8 : Nat) : Int) = min (max (xs.length : Int) 0) 8 := by unfold clamp; omega
  generalize hsd : clamp (xs.length : Int) 8 = s at hs
  have HS : Hid (clamp (xs.length : Int) 8 = s) := hsd
  have hs1 : s ≤ 8 := by omega
  have hs2 : s ≤ xs.length := by omega
  have HL : Hid (xs.drop (xs.length - s) = ys) := by
    show _ = _
    rw [← hys]; unfold last8; congr 1; omega
  clear hsd hs hys
  go_enter Tryd.func37, Tryd.ntmps37
  go_wp2_with (first
    | (go_at_call 55; refine (within_any _ _ _ (by omega)).mono ?_; rintro e w' ⟨rfl, hw⟩; obtain rfl := hw.symm; rw [HS.out])
    | (refine cut_from _ rfl (.tmp 6) (.tmp 12) rfl _ xs _ (xs.length - s) rfl rfl (by omega) (by omega) HBB.out ?_; intro v' hv; rw [HL.out] at hv; obtain ⟨ao', cap', rfl, k1, k2, k3, -, k5⟩ := hv; have K3 : Hid (AllB ys) := k3; have K5 : Hid (0 < ys.length → ∃ b off, ao' = some ⟨b, off, none⟩ ∧ ∀ t, t < ys.length → w.cell? ⟨b, off + t, none⟩ = some (.int .u8 (gb ys t))) := k5; clear k3 k5))
  go_loop [3, 15] (fun n i => ∃ k : Nat, k ≤ ys.length ∧ i = .int .i64 k ∧ n = .int .u64 (num (ys.take k))) (fun _ i => ys.length - (intOf i).toNat)
  case atStart => exact ⟨0, Nat.zero_le _, rfl, rfl⟩
  case round =>
    obtain ⟨k, hk, rfl, rfl⟩ := hrel
    by_cases hlt : k < ys.length
    · obtain ⟨b, off, rfl, hca⟩ := K5.out (by omega)
      have c0 := hca k hlt
      clear hca
      have SN : Hid (num (ys.take (k + 1)) = num (ys.take k) * 256 % 18446744073709551616 + gb ys k) := by
        show _ = _
        rw [take_snoc_gb ys k hlt, num_snoc]
      go_wp2
      go_round
      case rel => exact ⟨k + 1, by omega, by go_num, by rw [SN.out, shl_or _ _ (K3.out k)]⟩
      case measure => simp [intOf]; omega
    · have hks : k = ys.length := by omega
      subst hks
      rw [List.take_length]
      go_wp2
      go_ret
      exact ⟨rfl, rfl⟩
end Go.Proofs.YtmbfccclghnaeaaDoor

/- What octet's Big, Little, NumLittle and the reference's answer. No claim of its own. -/
namespace Go.Proofs.YtmbfccclghnaeaaDoor
open Go.RowKit
set_option maxRecDepth 20000

/-- n, shifted by k bytes -/
def sh (n : Int) : Nat → Int
  | 0 => n
  | k + 1 => sh n k / 256
theorem sh_succ (n : Int) (k : Nat) : sh n (k + 1) = sh n k / 256 := rfl
theorem sh_bd (n : Int) (h : 0 ≤ n ∧ n ≤ 18446744073709551615) (k : Nat) : 0 ≤ sh n k ∧ sh n k ≤ 18446744073709551615 := by
  induction k with
  | zero => exact h
  | succ k ih => rw [sh_succ]; omega
/-- the k low bytes of n, the least first -/
def le (n : Int) (k : Nat) : List Int := (List.range k).map fun i => sh n i % 256
theorem le_snoc (n : Int) (k : Nat) : le n (k + 1) = le n k ++ [sh n k % 256] := by simp [le, List.range_succ]
theorem le_len (n : Int) (k : Nat) : (le n k).length = k := by simp [le]
theorem le_all (n : Int) (k : Nat) : AllB (le n k) := allB_mem fun x hx => by
  obtain ⟨i, _, rfl⟩ := List.mem_map.1 hx
  omega
theorem allB_reverse {xs : List Int} (h : AllB xs) : AllB xs.reverse := allB_mem fun x hx => by
  obtain ⟨i, hi, rfl⟩ := List.getElem_of_mem (List.mem_reverse.1 hx)
  have := h i
  simpa [gb, List.getD, hi] using this

def leAt (n : Int) (s k : Nat) : List Int := le n k ++ List.replicate (s - k) 0
theorem leAt_set (n : Int) (s k : Nat) (h : k < s) : (leAt n s k).set k (sh n k % 256) = leAt n s (k + 1) := by
  unfold leAt
  obtain ⟨d, hd⟩ : ∃ d, s - k = d + 1 := ⟨s - k - 1, by omega⟩
  have e : s - (k + 1) = d := by omega
  rw [hd, e, List.set_append_right _ _ (by simp [le_len]), le_snoc]
  simp [le_len, List.replicate_succ]
theorem leAt_end (n : Int) (s : Nat) : leAt n s s = le n s := by simp [leAt]

def beAt (n : Int) (s k : Nat) : List Int := List.replicate (s - k) 0 ++ (le n k).reverse
theorem beAt_set (n : Int) (s k : Nat) (h : k < s) : (beAt n s k).set (s - 1 - k) (sh n k % 256) = beAt n s (k + 1) := by
  unfold beAt
  obtain ⟨d, hd⟩ : ∃ d, s - k = d + 1 := ⟨s - k - 1, by omega⟩
  have e : s - (k + 1) = d := by omega
  have e' : s - 1 - k = d := by omega
  rw [hd, e, e', List.set_append_left _ _ (by simp), le_snoc, List.replicate_succ', List.set_append_right _ _ (by simp)]
  simp
theorem beAt_end (n : Int) (s : Nat) : beAt n s s = (le n s).reverse := by simp [beAt]

set_option maxHeartbeats 2000000 in
theorem big_any (n k0 : Int) (w : World) (hn : 0 ≤ n ∧ n ≤ 18446744073709551615) :
    Calls Tryd.prog 49 #[.int .u64 n, .int .i64 k0] w fun e w' => ∃ v, e = .returned v ∧ Byt w' v (le n (clamp k0 8)).reverse ∧ Below w.heap.size w w' := by
  have hs := clamp_le k0 8 (by omega)
  generalize hsd : clamp k0 8 = s at hs
  have HS : Hid (clamp k0 8 = s) := hsd
  have hn' : Hid (0 ≤ n ∧ n ≤ 18446744073709551615) := hn
  clear hsd hn
  go_enter Tryd.func49, Tryd.ntmps49
  go_wp2_with (first
    | (go_at_call 55; refine (within_any _ _ _ (by omega)).mono ?_; rintro e w' ⟨rfl, hw⟩; obtain rfl := hw.symm; rw [HS.out])
    | (at_make; refine make_law _ rfl _ _ rfl w.heap.size (Nat.le_refl _) _ s rfl rfl rfl (by omega) ?_; intro w1 hown hbel hlt))
  go_loopw [0, 13] (fun m i wr => ∃ k : Nat, k ≤ s ∧ i = .int .i64 k ∧ m = .int .u64 (sh n k) ∧ OwnN w.heap.size wr w.heap.size s (beAt n s k) ∧ Below w.heap.size w wr) (fun _ i _ => s - (intOf i).toNat)
  case atStart => exact ⟨0, Nat.zero_le _, rfl, rfl, by simpa [beAt, le] using hown, hbel⟩
  case round =>
    clear hown hbel
    obtain ⟨k, hk, rfl, rfl, hown, hbel⟩ := hrel
    by_cases hlt' : k < s
    · have c1 := hown.cell (show s - 1 - k < s by omega)
      have c2 := hown.free (s - 1 - k)
      have hown' := hown.set (s - 1 - k) (sh n k % 256)
      rw [beAt_set n s k hlt'] at hown'
      have bd := sh_bd n hn'.out k
      have e1 : IntKind.u8.wrap (sh n k) = sh n k % 256 := IntKind.wrap_u8' _
      have e2 : ((s : Int) - 1 - (k : Int)).toNat = s - 1 - k := by omega
      go_wp2
      go_roundw
      case rel => exact ⟨k + 1, by omega, by go_num, rfl, hown', hbel.setCell (Nat.le_refl _) _⟩
      case measure => simp [intOf]; omega
    · have : k = s := by omega
      subst this
      rw [beAt_end] at hown
      go_wp2
      go_ret
      exact ⟨_, rfl, hown.byt (allB_reverse (le_all _ _)), hbel⟩
end Go.Proofs.YtmbfccclghnaeaaDoor

/- What octet's NumLittle and the reference's Back, Little, Big, NumLittle and Num answer. No claim of its own. -/
namespace Go.Proofs.YtmbfccclghnaeaaDoor
open Go.RowKit
set_option maxRecDepth 20000

theorem rev_snoc (xs : List Int) (k : Nat) (h : k < xs.length) : xs.reverse.take (k + 1) = xs.reverse.take k ++ [gb xs (xs.length - 1 - k)] := by
  rw [List.take_succ_eq_append_getElem (by simpa using h)]
  simp [gb, List.getD, show xs.length - 1 - k < xs.length by omega]
theorem allB_take {xs : List Int} (h : AllB xs) (k : Nat) : AllB (xs.take k) := allB_mem fun x hx => by
  obtain ⟨i, hi, rfl⟩ := List.getElem_of_mem (List.mem_of_mem_take hx)
  have := h i
  simpa [gb, List.getD, hi] using this

set_option maxHeartbeats 2000000 in
theorem rlittle_any (n k0 : Int) (w : World) (hn : 0 ≤ n ∧ n ≤ 18446744073709551615) :
    Calls Tryd.prog 58 #[.int .u64 n, .int .i64 k0] w fun e w' => ∃ v, e = .returned v ∧ Byt w' v (le n (clamp k0 8)) ∧ Below w.heap.size w w' := by
  have hs : ((clamp k0 8 : Nat) : Int) = min (max k0 0) 8 := by unfold clamp; omega
  generalize hsd : clamp k0 8 = s at hs
  have HS : Hid ((s : Int) = min (max k0 0) 8) := hs
  have hs1 : s ≤ 8 := by omega
  have hn' : Hid (0 ≤ n ∧ n ≤ 18446744073709551615) := hn
  clear hsd hs hn
  go_enter Tryd.func58, Tryd.ntmps58
  go_wp2
  go_loopw [0, 5, 6] (fun m v i wr => ∃ k : Nat, k ≤ s ∧ i = .int .i64 k ∧ m = .int .u64 (sh n k) ∧ Own w.heap.size wr v (le n k) ∧ Below w.heap.size w wr) (fun _ _ i _ => s - (intOf i).toNat)
  case atStart => exact ⟨0, Nat.zero_le _, rfl, rfl, Own.empty w (Nat.le_refl _), (Below.refl _ _).alloc (Nat.le_refl _) _⟩
  case round =>
    obtain ⟨k, hk, rfl, rfl, hown, hbel⟩ := hrel
    have hsz := hbel.size
    by_cases hlt : k < s
    · have h1 : (k : Int) < k0 := by have := HS.out; omega
      have h2 : (k : Int) < 8 := by omega
      have bd := sh_bd n hn'.out k
      have e1 : IntKind.u8.wrap (sh n k % 256) = sh n k % 256 := by rw [IntKind.wrap_u8']; omega
      go_wp2_with (at_builtin; refine push_law wr rfl (.tmp 17) (.tmp 21) rfl w.heap.size (by omega) _ _ (sh n k % 256) rfl rfl hown (by rw [le_len]; omega) ?_; intro v' w1 hown' hbel')
      rw [← le_snoc] at hown'
      go_roundw
      case rel => exact ⟨k + 1, by omega, by go_num, rfl, hown', hbel.trans hbel'⟩
      case measure => simp [intOf]; omega
    · have hks : k = s := by omega
      subst hks
      by_cases h1 : (k : Int) < k0
      · have h2 : ¬ (k : Int) < 8 := by have := HS.out; omega
        go_wp2
        go_ret
        exact ⟨_, rfl, hown.byt (le_all _ _), hbel⟩
      · go_wp2
        go_ret
        exact ⟨_, rfl, hown.byt (le_all _ _), hbel⟩

set_option maxHeartbeats 2000000 in
theorem bak_any (v : Value) (xs : List Int) (w : World) (hb : Byt w v xs) (hl : xs.length ≤ 1048576) :
    Calls Tryd.prog 57 #[v] w fun e w' => ∃ v', e = .returned v' ∧ Byt w' v' xs.reverse ∧ Below w.heap.size w w' := by
  obtain ⟨ao, cap, rfl, h1, h2, h3, -, h5⟩ := hb
  have H5 : Hid (0 < xs.length → ∃ b off, ao = some ⟨b, off, none⟩ ∧ ∀ t, t < xs.length → w.cell? ⟨b, off + t, none⟩ = some (.int .u8 (gb xs t))) := h5
  have HA : Hid (AllB xs) := h3
  clear h5 h3
  go_enter Tryd.func57, Tryd.ntmps57
  go_wp2
  go_loopw [3, 4] (fun v i wr => ∃ k : Nat, k ≤ xs.length ∧ i = .int .i64 ((xs.length : Int) - 1 - k) ∧ Own w.heap.size wr v (xs.reverse.take k) ∧ Below w.heap.size w wr) (fun _ i _ => (intOf i + 1).toNat)
  case atStart => exact ⟨0, Nat.zero_le _, by simp, Own.empty w (Nat.le_refl _), (Below.refl _ _).alloc (Nat.le_refl _) _⟩
  case round =>
    obtain ⟨k, hk, rfl, hown, hbel⟩ := hrel
    have hsz := hbel.size
    by_cases hlt : k < xs.length
    · obtain ⟨b, off, rfl, hca⟩ := H5.out (by omega)
      have c0 := hca (xs.length - 1 - k) (by omega)
      have c1 : wr.cell? ⟨b, off + (xs.length - 1 - k), none⟩ = some (.int .u8 (gb xs (xs.length - 1 - k))) := by rw [hbel.cell (World.block_lt_of_cell? w _ c0)]; exact c0
      have e2 : ((xs.length : Int) - 1 - (k : Int)).toNat = xs.length - 1 - k := by omega
      clear c0 hca
      go_wp2_with (at_builtin; refine push_law wr rfl (.tmp 13) (.tmp 18) rfl w.heap.size (by omega) _ _ (gb xs (xs.length - 1 - k)) rfl rfl hown (by simp; omega) ?_; intro v' w1 hown' hbel')
      rw [← rev_snoc xs k hlt] at hown'
      go_roundw
      case rel => exact ⟨k + 1, by omega, by go_num, hown', hbel.trans hbel'⟩
      case measure => simp [intOf]; omega
    · have hks : k = xs.length := by omega
      subst hks
      rw [List.take_of_length_le (by simp)] at hown
      go_wp2
      go_ret
      exact ⟨_, rfl, hown.byt (allB_reverse HA.out), hbel⟩

/-- the number of the first eight bytes, the least first -/
def numL (xs : List Int) : Int := num (xs.take 8).reverse
theorem numL_rev (xs : List Int) : numL xs.reverse = num (last8 xs) := by
  unfold numL last8; rw [List.take_reverse, List.reverse_reverse]
theorem take8_snoc (xs : List Int) (s k : Nat) (hs : s = min xs.length 8) (h : k < s) : (xs.take 8).reverse.take (k + 1) = (xs.take 8).reverse.take k ++ [gb xs (s - 1 - k)] := by
  have hl : (xs.take 8).length = s := by simp; omega
  rw [rev_snoc (xs.take 8) k (by omega), hl]
  have : gb (xs.take 8) (s - 1 - k) = gb xs (s - 1 - k) := by simp [gb, List.getD, show s - 1 - k < 8 by omega]
  rw [this]

theorem mul_add (n x : Int) (hx : 0 ≤ x ∧ x ≤ 255) : IntKind.u64.wrap (IntKind.u64.wrap (n * 256) + x) = n * 256 % 18446744073709551616 + x := by
  rw [IntKind.wrap_u64, IntKind.wrap_u64]; omega

set_option maxHeartbeats 2000000 in
theorem rnumLittle_any (v : Value) (xs : List Int) (w : World) (hb : Byt w v xs) :
    Calls Tryd.prog 63 #[v] w fun e w' => e = .returned (.int .u64 (numL xs)) ∧ w' = w := by
  obtain ⟨ao, cap, rfl, h1, h2, h3, -, h5⟩ := hb
  have H5 : Hid (0 < xs.length → ∃ b off, ao = some ⟨b, off, none⟩ ∧ ∀ t, t < xs.length → w.cell? ⟨b, off + t, none⟩ = some (.int .u8 (gb xs t))) := h5
  have HA : Hid (AllB xs) := h3
  clear h5 h3
  obtain ⟨s, hs⟩ : ∃ s, s = min xs.length 8 := ⟨_, rfl⟩
  have HS2 : Hid (s = min xs.length 8) := hs
  have hs1 : s ≤ 8 := by omega
  have hs2 : s ≤ xs.length := by omega
  clear hs
  go_enter Tryd.func63, Tryd.ntmps63
  go_wp2
  all_goals
    go_loop [3, 4] (fun n i => ∃ k : Nat, k ≤ s ∧ i = .int .i64 ((s : Int) - 1 - k) ∧ n = .int .u64 (num ((xs.take 8).reverse.take k))) (fun _ i => (intOf i + 1).toNat)
    case atStart => exact ⟨0, Nat.zero_le _, by have := HS2.out; congr 1; omega, rfl⟩
    case round =>
      obtain ⟨k, hk, rfl, rfl⟩ := hrel
      by_cases hlt : k < s
      · obtain ⟨b, off, rfl, hca⟩ := H5.out (by omega)
        have c0 := hca (s - 1 - k) (by omega)
        have e2 : ((s : Int) - 1 - (k : Int)).toNat = s - 1 - k := by omega
        clear hca
        have SN : Hid (num ((xs.take 8).reverse.take (k + 1)) = num ((xs.take 8).reverse.take k) * 256 % 18446744073709551616 + gb xs (s - 1 - k)) := by
          show _ = _
          rw [take8_snoc xs s k HS2.out hlt, num_snoc]
        have gbd := HA.out (s - 1 - k)
        go_wp2
        go_round
        case rel => exact ⟨k + 1, by omega, by go_num, by rw [SN.out, mul_add _ _ (HA.out _)]⟩
        case measure => simp [intOf]; omega
      · have hks : k = s := by omega
        have e : Hid ((xs.take 8).reverse.take k = (xs.take 8).reverse) := List.take_of_length_le (by have := HS2.out; simp; omega)
        rw [e.out]
        go_wp2
        go_ret
        exact ⟨rfl, rfl⟩

set_option maxHeartbeats 2000000 in
theorem rbig_any (n k0 : Int) (w : World) (hn : 0 ≤ n ∧ n ≤ 18446744073709551615) :
    Calls Tryd.prog 39 #[.int .u64 n, .int .i64 k0] w fun e w' => ∃ v, e = .returned v ∧ Byt w' v (le n (clamp k0 8)).reverse ∧ Below w.heap.size w w' := by
  have hs := clamp_le k0 8 (by omega)
  have hn' : Hid (0 ≤ n ∧ n ≤ 18446744073709551615) := hn
  clear hn
  go_enter Tryd.func39, Tryd.ntmps39
  go_wp2_with (first
    | (go_at_call 58; refine (rlittle_any n k0 _ hn'.out).mono ?_; rintro e w1 ⟨v1, rfl, hv1, hb1⟩; have hz1 := hb1.size)
    | (go_at_call 57; refine (bak_any v1 _ _ hv1 (by rw [le_len]; omega)).mono ?_; rintro e w2 ⟨v2, rfl, hv2, hb2⟩))
  go_ret
  exact ⟨_, rfl, hv2, hb1.trans (hb2.mono hz1)⟩

set_option maxHeartbeats 2000000 in
theorem rnum_any (v : Value) (xs : List Int) (w : World) (hb : Byt w v xs) (hl : xs.length ≤ 1048576) :
    Calls Tryd.prog 44 #[v] w fun e w' => e = .returned (.int .u64 (num (last8 xs))) ∧ Below w.heap.size w w' := by
  rw [← numL_rev]
  go_enter Tryd.func44, Tryd.ntmps44
  go_wp2_with (first
    | (go_at_call 57; refine (bak_any v _ _ hb hl).mono ?_; rintro e w2 ⟨v2, rfl, hv2, hb2⟩)
    | (go_at_call 63; refine (rnumLittle_any v2 _ _ hv2).mono ?_; rintro e w3 ⟨rfl, hw⟩; obtain rfl := hw.symm))
  go_ret
  exact ⟨rfl, hb2⟩

theorem num_le (n : Int) (hn : 0 ≤ n ∧ n ≤ 18446744073709551615) : num (le n 8).reverse = n := by
  simp only [num, le, List.range, List.range.loop, List.map_cons, List.map_nil, List.reverse_cons, List.reverse_nil, List.nil_append, List.cons_append, List.foldl_cons, List.foldl_nil, sh]
  omega
theorem clamp88 : clamp 8 8 = 8 := by decide
theorem numL_le (n : Int) (hn : 0 ≤ n ∧ n ≤ 18446744073709551615) : numL (le n 8) = n := by
  unfold numL; rw [List.take_of_length_le (by rw [le_len]; omega)]; exact num_le n hn
theorem last8_le (n : Int) (hn : 0 ≤ n ∧ n ≤ 18446744073709551615) : num (last8 (le n 8).reverse) = n := by
  unfold last8; rw [List.length_reverse, le_len]; exact num_le n hn
end Go.Proofs.YtmbfccclghnaeaaDoor

/- What octet's Xor, Same and Invert and the reference's Xor and Invert answer. No claim of its own. -/
namespace Go.Proofs.YtmbfccclghnaeaaDoor
open Go.RowKit
set_option maxRecDepth 20000

/-- zs, filled as far as place k -/
def part (zs : List Int) (k : Nat) : List Int := zs.take k ++ List.replicate (zs.length - k) 0
theorem part_zero (zs : List Int) : part zs 0 = List.replicate zs.length 0 := by simp [part]
theorem part_end (zs : List Int) : part zs zs.length = zs := by simp [part]
theorem part_set (zs : List Int) (k : Nat) (h : k < zs.length) : (part zs k).set k (gb zs k) = part zs (k + 1) := by
  unfold part
  obtain ⟨d, hd⟩ : ∃ d, zs.length - k = d + 1 := ⟨zs.length - k - 1, by omega⟩
  have e : zs.length - (k + 1) = d := by omega
  have hm : min k zs.length = k := by omega
  rw [hd, e, List.set_append_right _ _ (by simp; omega), List.take_succ_eq_append_getElem h, List.append_assoc]
  simp only [List.length_take, hm, Nat.sub_self, List.replicate_succ, List.set_cons_zero, gb, List.getD, List.getElem?_eq_getElem h, Option.getD_some, List.cons_append, List.nil_append]

/-- two bytes, xored -/
def xr (a b : Int) : Int := ((a.toNat ^^^ b.toNat : Nat) : Int)
theorem xr_of (a b : Int) (ha : 0 ≤ a ∧ a ≤ 255) (hb : 0 ≤ b ∧ b ≤ 255) : bits .xor .u8 a b = xr a b := u8_xor a b ha.1 (by omega) hb.1 (by omega)
theorem xr_bd (a b : Int) (ha : 0 ≤ a ∧ a ≤ 255) (hb : 0 ≤ b ∧ b ≤ 255) : 0 ≤ xr a b ∧ xr a b ≤ 255 := by
  unfold xr
  have := Nat.xor_lt_two_pow (n := 8) (show a.toNat < 2 ^ 8 by omega) (show b.toNat < 2 ^ 8 by omega)
  omega
theorem xr_comm (a b : Int) : xr a b = xr b a := by unfold xr; rw [Nat.xor_comm]
theorem xr_back (a b : Int) (ha : 0 ≤ a) : xr (xr a b) b = a := by
  unfold xr
  rw [Int.toNat_natCast, Nat.xor_assoc, Nat.xor_self, Nat.xor_zero, Int.toNat_of_nonneg ha]
theorem xr_zero (a b : Int) (ha : 0 ≤ a) (hb : 0 ≤ b) : xr a b = 0 ↔ a = b := by
  unfold xr
  constructor
  · intro h
    have h1 : a.toNat ^^^ b.toNat = 0 := by omega
    have h2 : a.toNat = b.toNat := by
      have := congrArg (· ^^^ b.toNat) h1
      simpa [Nat.xor_assoc] using this
    omega
  · rintro rfl; simp

/-- two lists, xored byte by byte -/
def xorl (xs ys : List Int) : List Int := List.zipWith xr xs ys
theorem xorl_len (xs ys : List Int) (h : xs.length = ys.length) : (xorl xs ys).length = xs.length := by simp [xorl]; omega
theorem xorl_gb (xs ys : List Int) (h : xs.length = ys.length) (k : Nat) (hk : k < xs.length) : gb (xorl xs ys) k = xr (gb xs k) (gb ys k) := by
  simp [gb, xorl, List.getD, List.getElem?_zipWith, hk, show k < ys.length by omega]
theorem xorl_all (xs ys : List Int) (h : xs.length = ys.length) (ha : AllB xs) (hb : AllB ys) : AllB (xorl xs ys) := by
  intro k
  by_cases hk : k < xs.length
  · rw [xorl_gb xs ys h k hk]; exact xr_bd _ _ (ha k) (hb k)
  · have : gb (xorl xs ys) k = 0 := by simp only [gb, List.getD, List.getElem?_eq_none (show (xorl xs ys).length ≤ k by rw [xorl_len xs ys h]; omega)]; rfl
    omega
theorem xorl_back (xs ys : List Int) (h : xs.length = ys.length) (ha : AllB xs) : xorl (xorl xs ys) ys = xs := by
  have hl := xorl_len xs ys h
  refine ext_gb (by rw [xorl_len _ _ (by omega)]; omega) fun t ht => ?_
  rw [xorl_len _ _ (by omega)] at ht
  rw [xorl_gb _ _ (by omega) t (by omega), xorl_gb _ _ h t (by omega), xr_back _ _ (ha t).1]
theorem xorl_take (xs ys : List Int) (h : xs.length = ys.length) (k : Nat) (hk : k < xs.length) : (xorl xs ys).take (k + 1) = (xorl xs ys).take k ++ [xr (gb xs k) (gb ys k)] := by
  have hl := xorl_len xs ys h
  rw [List.take_succ_eq_append_getElem (by omega), ← xorl_gb xs ys h k hk]
  simp [gb, List.getD, show k < (xorl xs ys).length by omega]

/-- what is unlike so far, or-ed -/
def unl : List Int → Int := fun zs => zs.foldl (fun u z => bits .or .u8 u z) 0
theorem unl_snoc (zs : List Int) (z : Int) : unl (zs ++ [z]) = bits .or .u8 (unl zs) z := by simp [unl]
theorem or_zero (u z : Int) (hu : 0 ≤ u ∧ u ≤ 255) (hz : 0 ≤ z ∧ z ≤ 255) : (0 ≤ bits .or .u8 u z ∧ bits .or .u8 u z ≤ 255) ∧ (bits .or .u8 u z = 0 ↔ u = 0 ∧ z = 0) := by
  rw [u8_or _ _ hu.1 (by omega) hz.1 (by omega)]
  have hlt := Nat.or_lt_two_pow (n := 8) (show u.toNat < 2 ^ 8 by omega) (show z.toNat < 2 ^ 8 by omega)
  have h0 : (u.toNat ||| z.toNat) = 0 ↔ u.toNat = 0 ∧ z.toNat = 0 := Nat.or_eq_zero_iff
  omega
theorem unl_from (zs : List Int) : ∀ u : Int, (0 ≤ u ∧ u ≤ 255) → (∀ z ∈ zs, 0 ≤ z ∧ z ≤ 255) → (zs.foldl (fun u z => bits .or .u8 u z) u = 0 ↔ u = 0 ∧ ∀ z ∈ zs, z = 0) := by
  induction zs with
  | nil => intro u hu h; simp
  | cons z zs ih =>
    intro u hu h
    have o := or_zero u z hu (h z (by simp))
    rw [List.foldl_cons, ih _ o.1 (fun y hy => h y (by simp [hy])), o.2]
    simp [and_assoc]
theorem unl_zero (zs : List Int) (h : ∀ z ∈ zs, 0 ≤ z ∧ z ≤ 255) : unl zs = 0 ↔ ∀ z ∈ zs, z = 0 := by
  unfold unl; rw [unl_from zs 0 (by decide) h]; simp
theorem mem_gb {xs : List Int} {z : Int} (h : z ∈ xs) : ∃ i, i < xs.length ∧ gb xs i = z := by
  obtain ⟨i, hi, rfl⟩ := List.getElem_of_mem h
  exact ⟨i, hi, by simp [gb, List.getD, hi]⟩
theorem gb_mem {xs : List Int} {i : Nat} (h : i < xs.length) : gb xs i ∈ xs := by
  simp [gb, List.getD, h]
theorem unl_same (xs ys : List Int) (h : xs.length = ys.length) (ha : AllB xs) (hb : AllB ys) : (unl (xorl xs ys) == 0) = decide (xs = ys) := by
  have hall : ∀ z ∈ xorl xs ys, 0 ≤ z ∧ z ≤ 255 := fun z hz => by
    obtain ⟨i, hi, rfl⟩ := mem_gb hz
    exact xorl_all xs ys h ha hb i
  rw [Bool.eq_iff_iff]
  simp only [beq_iff_eq, decide_eq_true_eq]
  rw [unl_zero _ hall]
  constructor
  · intro hz
    refine ext_gb h fun t ht => ?_
    have := hz (gb (xorl xs ys) t) (gb_mem (by rw [xorl_len xs ys h]; exact ht))
    rw [xorl_gb xs ys h t ht] at this
    exact (xr_zero _ _ (ha t).1 (hb t).1).1 this
  · rintro rfl z hz
    obtain ⟨i, hi, rfl⟩ := mem_gb hz
    rw [xorl_len xs xs rfl] at hi
    rw [xorl_gb xs xs rfl i hi]
    exact (xr_zero _ _ (ha i).1 (ha i).1).2 rfl

set_option maxHeartbeats 2000000 in
theorem oSame_any (va vb : Value) (xs ys : List Int) (w : World) (ha : Byt w va xs) (hb : Byt w vb ys) :
    Calls Tryd.prog 47 #[va, vb] w fun e w' => e = .returned (.bool (decide (xs = ys))) ∧ ∃ n, w' = w.drewN n := by
  obtain ⟨ao, ca, rfl, ha1, ha2, ha3, -, ha5⟩ := ha
  obtain ⟨bo, cb, rfl, hb1, hb2, hb3, -, hb5⟩ := hb
  by_cases hl : xs.length = ys.length
  · have HL : Hid (xs.length = ys.length) := hl
    have HA5 : Hid (0 < xs.length → ∃ b off, ao = some ⟨b, off, none⟩ ∧ ∀ t, t < xs.length → w.cell? ⟨b, off + t, none⟩ = some (.int .u8 (gb xs t))) := ha5
    have HB5 : Hid (0 < xs.length → ∃ b off, bo = some ⟨b, off, none⟩ ∧ ∀ t, t < xs.length → w.cell? ⟨b, off + t, none⟩ = some (.int .u8 (gb ys t))) := by
      rw [hl]; exact hb5
    have HA : Hid (AllB xs) := ha3
    have HB : Hid (AllB ys) := hb3
    rw [← hl] at hb1 ⊢
    clear hb5 ha5 ha3 hb3 hl
    rw [← unl_same xs ys HL.out HA.out HB.out]
    go_enter Tryd.func47, Tryd.ntmps47
    go_wp2
    go_loopw [5, 14] (fun u i wr => ∃ k n : Nat, k ≤ xs.length ∧ i = .int .i64 k ∧ u = .int .u8 (unl ((xorl xs ys).take k)) ∧ wr = w.drewN n) (fun _ i _ => xs.length - (intOf i).toNat)
    case atStart => exact ⟨0, 0, Nat.zero_le _, rfl, rfl, rfl⟩
    case round =>
      obtain ⟨k, n, hk, rfl, rfl, rfl⟩ := hrel
      by_cases hlt : k < xs.length
      · obtain ⟨b, off, rfl, hca⟩ := HA5.out (by omega)
        obtain ⟨b', off', rfl, hcb⟩ := HB5.out (by omega)
        have c1 : w.cell? ⟨b, off + k, none⟩ = some (.int .u8 (gb xs k)) := hca k hlt
        have c2 : w.cell? ⟨b', off' + k, none⟩ = some (.int .u8 (gb ys k)) := hcb k hlt
        have lk : (k : Int) < (xs.length : Int) := by omega
        have hx : bits .xor .u8 (gb xs k) (gb ys k) = xr (gb xs k) (gb ys k) := xr_of _ _ (HA.out k) (HB.out k)
        have SN : Hid (unl ((xorl xs ys).take (k + 1)) = bits .or .u8 (unl ((xorl xs ys).take k)) (xr (gb xs k) (gb ys k))) := by
          show _ = _
          rw [xorl_take xs ys HL.out k hlt, unl_snoc]
        clear hca hcb
        go_wp2
        go_quiet (fail)
        go_wp2
        go_roundw
        case rel => exact ⟨k + 1, n + nq, by omega, by go_num, by rw [SN.out], rfl⟩
        case measure => simp [intOf]; omega
      · have hks : k = xs.length := by omega
        have e : Hid ((xorl xs ys).take k = xorl xs ys) := List.take_of_length_le (by rw [xorl_len xs ys HL.out]; omega)
        rw [e.out]
        go_wp2
        go_ret
        exact ⟨rfl, n, rfl⟩
  · have : decide (xs = ys) = false := by simp only [decide_eq_false_iff_not]; intro e; exact hl (by rw [e])
    rw [this]
    have h2 : ((xs.length : Int) != (ys.length : Int)) = true := by simp; omega
    go_enter Tryd.func47, Tryd.ntmps47
    go_wp2
    go_ret
    exact ⟨rfl, 0, rfl⟩

def inv (xs : List Int) : List Int := xs.map fun x => xr 255 x
theorem inv_len (xs : List Int) : (inv xs).length = xs.length := by simp [inv]
theorem inv_gb (xs : List Int) (k : Nat) (hk : k < xs.length) : gb (inv xs) k = xr 255 (gb xs k) := by simp [gb, inv, List.getD, hk]
theorem inv_all (xs : List Int) (ha : AllB xs) : AllB (inv xs) := allB_mem fun z hz => by
  obtain ⟨i, hi, rfl⟩ := mem_gb hz
  rw [inv_len] at hi
  rw [inv_gb xs i hi]
  exact xr_bd _ _ (by decide) (ha i)
theorem inv_xorl (xs : List Int) : inv xs = xorl xs (List.replicate xs.length 255) := by
  refine ext_gb (by rw [inv_len, xorl_len _ _ (by simp)]) fun t ht => ?_
  rw [inv_len] at ht
  rw [inv_gb xs t ht, xorl_gb _ _ (by simp) t ht, xr_comm]
  simp [gb, List.getD, ht]

set_option maxHeartbeats 2000000 in
theorem rxor_own (va vb : Value) (xs ys : List Int) (w : World) (ha : Byt w va xs) (hb : Byt w vb ys) (hl : xs.length = ys.length) (hmax : xs.length ≤ 1048576) :
    Calls Tryd.prog 61 #[va, vb] w fun e w' => ∃ v, e = .returned v ∧ Own w.heap.size w' v (xorl xs ys) ∧ Below w.heap.size w w' := by
  obtain ⟨ao, ca, rfl, ha1, ha2, ha3, -, ha5⟩ := ha
  obtain ⟨bo, cb, rfl, hb1, hb2, hb3, -, hb5⟩ := hb
  have HL : Hid (xs.length = ys.length) := hl
  have HA5 : Hid (0 < xs.length → ∃ b off, ao = some ⟨b, off, none⟩ ∧ ∀ t, t < xs.length → w.cell? ⟨b, off + t, none⟩ = some (.int .u8 (gb xs t))) := ha5
  have HB5 : Hid (0 < xs.length → ∃ b off, bo = some ⟨b, off, none⟩ ∧ ∀ t, t < xs.length → w.cell? ⟨b, off + t, none⟩ = some (.int .u8 (gb ys t))) := by
    rw [hl]; exact hb5
  have HA : Hid (AllB xs) := ha3
  have HB : Hid (AllB ys) := hb3
  rw [← hl] at hb1 ⊢
  clear hb5 ha5 ha3 hb3 hl
  have HZ : Hid ((xorl xs ys).length = xs.length) := xorl_len xs ys HL.out
  go_enter Tryd.func61, Tryd.ntmps61
  go_wp2
  go_loopw [5, 6] (fun v i wr => ∃ k : Nat, k ≤ xs.length ∧ i = .int .i64 k ∧ Own w.heap.size wr v ((xorl xs ys).take k) ∧ Below w.heap.size w wr) (fun _ i _ => xs.length - (intOf i).toNat)
  case atStart => exact ⟨0, Nat.zero_le _, rfl, Own.empty w (Nat.le_refl _), (Below.refl _ _).alloc (Nat.le_refl _) _⟩
  case round =>
    obtain ⟨k, hk, rfl, hown, hbel⟩ := hrel
    have hsz := hbel.size
    by_cases hlt' : k < xs.length
    · obtain ⟨b, off, rfl, hca⟩ := HA5.out (by omega)
      obtain ⟨b', off', rfl, hcb⟩ := HB5.out (by omega)
      have n1 := World.block_lt_of_cell? w _ (hca k hlt')
      have n2 := World.block_lt_of_cell? w _ (hcb k hlt')
      have c1 : wr.cell? ⟨b, off + k, none⟩ = some (.int .u8 (gb xs k)) := (hbel.cell n1).trans (hca k hlt')
      have c2 : wr.cell? ⟨b', off' + k, none⟩ = some (.int .u8 (gb ys k)) := (hbel.cell n2).trans (hcb k hlt')
      have lk : (k : Int) < (xs.length : Int) := by omega
      have lk0 : (0 : Int) ≤ (k : Int) := by omega
      have hx : bits .xor .u8 (gb xs k) (gb ys k) = xr (gb xs k) (gb ys k) := xr_of _ _ (HA.out k) (HB.out k)
      have hlen : ((xorl xs ys).take k).length ≤ 1099511627776 := by simp; omega
      have SN : Hid ((xorl xs ys).take (k + 1) = (xorl xs ys).take k ++ [xr (gb xs k) (gb ys k)]) := xorl_take xs ys HL.out k hlt'
      have HLEN : Hid (((xorl xs ys).take k).length ≤ 1099511627776) := hlen
      clear hca hcb hlen
      go_wp2
      go_region_held3 (fun w' => w'.cell? ⟨b, off + k, none⟩ = some (.int .u8 (gb xs k)) ∧ w'.cell? ⟨b', off' + k, none⟩ = some (.int .u8 (gb ys k)))
        (first
          | go_keep
          | (exact ⟨by rw [hbel'.cell n1]; simpa using c1, by rw [hbel'.cell n2]; simpa using c2⟩))
        ((refine step_push1 wr.drew rfl (.tmp 14) (.tmp 24) rfl w.heap.size (by simpa using hsz) _ _ (xr (gb xs k) (gb ys k)) rfl rfl hown HLEN.out ?_; intro v2 w2 hown' hbel'))
      go_wp2
      go_roundw
      case rel => exact ⟨k + 1, by omega, by go_num, by rw [SN.out]; exact hown', hbel.drew.trans hbel'⟩
      case measure => simp [intOf]; omega
    · have hks : k = xs.length := by omega
      have e : Hid ((xorl xs ys).take k = xorl xs ys) := List.take_of_length_le (by rw [HZ.out]; omega)
      rw [e.out] at hown
      go_wp2
      go_ret
      exact ⟨_, rfl, hown, hbel⟩

theorem rxor_any (va vb : Value) (xs ys : List Int) (w : World) (ha : Byt w va xs) (hb : Byt w vb ys) (hl : xs.length = ys.length) (hmax : xs.length ≤ 1048576) :
    Calls Tryd.prog 61 #[va, vb] w fun e w' => ∃ v, e = .returned v ∧ Byt w' v (xorl xs ys) ∧ Below w.heap.size w w' :=
  (rxor_own va vb xs ys w ha hb hl hmax).mono fun _ _ ⟨v, he, ho, hbl⟩ => ⟨v, he, ho.byt (xorl_all _ _ hl ha.all hb.all), hbl⟩
end Go.Proofs.YtmbfccclghnaeaaDoor

/- What fault's bitsOf and Bit, and the reference's Has and Bit answer. No claim of its own. -/
namespace Go.Proofs.YtmbfccclghnaeaaDoor.fa
open Go.RowKit
set_option maxRecDepth 20000

theorem makeFn (fn : Fn) (first cap : Array Value) (w : World) : (Instr.makeFunc fn first cap).run Tryd.prog w = .ok (.func fn first cap) w := rfl
end Go.Proofs.YtmbfccclghnaeaaDoor.fa

/- What fault's Bit, and the reference's Has and Bit answer. No claim of its own. -/
namespace Go.Proofs.YtmbfccclghnaeaaDoor.fa
open Go.RowKit
set_option maxRecDepth 20000

/-- what a mask says of the bit of any number -/
def bo (m : List Int) (i : Int) : Bool := if i < 0 then false else mk m i.toNat

theorem bit_prog (x : Int) (t : Nat) (h0 : 0 ≤ x) (h1 : x ≤ 255) : (bits .and .u8 (x / 2 ^ t) 1 != 0) = bit x.toNat t := by
  obtain ⟨X, rfl⟩ := Int.eq_ofNat_of_zero_le h0
  have e : ((X : Int) / 2 ^ t) = ((X / 2 ^ t : Nat) : Int) := by rw [Int.natCast_ediv]; norm_cast
  have l : X / 2 ^ t ≤ X := Nat.div_le_self _ _
  rw [e, Int.toNat_natCast]
  have := u8_and_nat (X / 2 ^ t) 1 (by omega) (by omega)
  rw [show ((1 : Nat) : Int) = 1 from rfl] at this
  rw [this, Nat.and_one_is_mod]
  unfold bit
  by_cases q : X / 2 ^ t % 2 = 1
  · rw [q]; decide
  · rw [show X / 2 ^ t % 2 = 0 by omega]; decide
end Go.Proofs.YtmbfccclghnaeaaDoor.fa

/- What the reference's Bit and And answer. No claim of its own. -/
namespace Go.Proofs.YtmbfccclghnaeaaDoor.fa
open Go.RowKit
set_option maxRecDepth 20000

/-- 'a & b', byte by byte -/
def andl (xs ys : List Int) : List Int := (List.range xs.length).map fun k => (((gb xs k).toNat &&& (gb ys k).toNat : Nat) : Int)
theorem andl_len (xs ys : List Int) : (andl xs ys).length = xs.length := by simp [andl]
theorem andl_gb (xs ys : List Int) (k : Nat) (h : k < xs.length) : gb (andl xs ys) k = (((gb xs k).toNat &&& (gb ys k).toNat : Nat) : Int) := by simp [gb, List.getD, andl, h]
theorem andl_ofb (xs ys : List Int) (hx : AllB xs) : andl xs ys = ofb xs.length fun i => hs xs i && hs ys i := by
  refine ext_gb (by rw [andl_len, ofb_len]) fun k hk => ?_
  rw [andl_len] at hk
  rw [andl_gb xs ys k hk, ofb_gb _ _ k hk, ands_ofb xs ys hx k]
theorem andl_all (xs ys : List Int) (hx : AllB xs) : AllB (andl xs ys) := by rw [andl_ofb xs ys hx]; exact ofb_all _ _
theorem andl_take (xs ys : List Int) (k : Nat) (hk : k < xs.length) : (andl xs ys).take (k + 1) = (andl xs ys).take k ++ [gb (andl xs ys) k] := by
  rw [List.take_succ_eq_append_getElem (by rw [andl_len]; exact hk)]
  simp [gb, List.getD, show k < (andl xs ys).length by rw [andl_len]; exact hk]
end Go.Proofs.YtmbfccclghnaeaaDoor.fa

