/- The field of 256 elements, as numbers: products, powers, inverses. No claim of its own. -/
import Derived.Test.YtjiddmgnkldmkaaBase
import Derived.Laws.BitsAllLaws
namespace Go.Proofs.Ytjiddmgnkldmkaa
open Go.RowKit

/-- a, if c -/
def sel (c : Bool) (a : Nat) : Nat := bif c then a else 0
theorem sel_xor (c : Bool) (a b : Nat) : sel c (a ^^^ b) = sel c a ^^^ sel c b := by cases c <;> simp [sel]
theorem sel_xor' (c d : Bool) (a : Nat) : sel (c ^^ d) a = sel c a ^^^ sel d a := by cases c <;> cases d <;> simp [sel]
theorem sel_lt (c : Bool) (a n : Nat) (h : a < n) : sel c a < n := by cases c <;> simp [sel] <;> omega

/-- a times x -/
def tm (a : Nat) : Nat := (2 * a % 256) ^^^ sel (a.testBit 7) 27
theorem xor_lt (a b : Nat) (ha : a < 256) (hb : b < 256) : a ^^^ b < 256 := Nat.xor_lt_two_pow (n := 8) ha hb
theorem tm_lt (a : Nat) : tm a < 256 := xor_lt _ _ (Nat.mod_lt _ (by omega)) (sel_lt _ _ _ (by omega))
theorem tm_zero : tm 0 = 0 := by decide
theorem xor_four (a b c d : Nat) : (a ^^^ b) ^^^ (c ^^^ d) = (a ^^^ c) ^^^ (b ^^^ d) := by
  rw [Nat.xor_assoc, Nat.xor_assoc, ← Nat.xor_assoc b c d, Nat.xor_comm b c, Nat.xor_assoc c b d]
theorem two_bit (x i : Nat) : (2 * x).testBit (i + 1) = x.testBit i := by rw [Nat.testBit_succ, show 2 * x / 2 = x by omega]
theorem tm_xor (a b : Nat) : tm (a ^^^ b) = tm a ^^^ tm b := by
  have h : 2 * (a ^^^ b) % 256 = (2 * a % 256) ^^^ (2 * b % 256) := by
    apply Nat.eq_of_testBit_eq
    intro i
    rw [show 256 = 2 ^ 8 from rfl, Nat.testBit_xor, Nat.testBit_mod_two_pow, Nat.testBit_mod_two_pow, Nat.testBit_mod_two_pow]
    cases i with
    | zero => simp
    | succ i =>
      rw [two_bit, two_bit, two_bit]
      rw [Nat.testBit_xor]
      by_cases h : i + 1 < 8 <;> simp [h]
  unfold tm
  rw [h, Nat.testBit_xor, sel_xor', xor_four]
theorem tm_sel (c : Bool) (a : Nat) : tm (sel c a) = sel c (tm a) := by cases c <;> simp [sel, tm_zero]

/-- the product, n bits of the second factor told -/
def gmf : Nat → Nat → Nat → Nat
  | 0, _, _ => 0
  | n + 1, a, b => sel (b.testBit 0) a ^^^ gmf n (tm a) (b / 2)
def gm (a b : Nat) : Nat := gmf 8 a b
theorem gmf_lt (n a b : Nat) (ha : a < 256) : gmf n a b < 256 := by
  induction n generalizing a b with
  | zero => simp [gmf]
  | succ n ih => exact xor_lt _ _ (sel_lt _ _ _ ha) (ih _ _ (tm_lt a))
theorem gm_lt (a b : Nat) (ha : a < 256) : gm a b < 256 := gmf_lt 8 a b ha
theorem gmf_zero (n a : Nat) : gmf n a 0 = 0 := by
  induction n generalizing a with
  | zero => rfl
  | succ n ih => simp [gmf, ih, sel]
theorem gmf_left (n b : Nat) : gmf n 0 b = 0 := by
  induction n generalizing b with
  | zero => rfl
  | succ n ih => simp [gmf, tm_zero, ih, sel]
theorem gmf_more (n a b : Nat) (h : b < 2 ^ n) : gmf (n + 1) a b = gmf n a b := by
  induction n generalizing a b with
  | zero =>
    have : b = 0 := by omega
    subst this; simp [gmf, sel]
  | succ n ih =>
    rw [gmf, ih (tm a) (b / 2) (by rw [Nat.pow_succ] at h; omega)]
    rfl
theorem gmf_xor (n a a' b : Nat) : gmf n (a ^^^ a') b = gmf n a b ^^^ gmf n a' b := by
  induction n generalizing a a' b with
  | zero => simp [gmf]
  | succ n ih => rw [gmf, gmf, gmf, tm_xor, ih, sel_xor, xor_four]
theorem gmf_tm (n a b : Nat) : gmf n (tm a) b = tm (gmf n a b) := by
  induction n generalizing a b with
  | zero => simp [gmf, tm_zero]
  | succ n ih => rw [gmf, gmf, tm_xor, tm_sel, ih]
theorem half_xor (b b' : Nat) : (b ^^^ b') / 2 = b / 2 ^^^ b' / 2 := by
  have := Nat.shiftRight_xor_distrib (a := b) (b := b') (i := 1)
  simpa [Nat.shiftRight_eq_div_pow] using this
theorem gmf_xor' (n a b b' : Nat) : gmf n a (b ^^^ b') = gmf n a b ^^^ gmf n a b' := by
  induction n generalizing a b b' with
  | zero => simp [gmf]
  | succ n ih => rw [gmf, gmf, gmf, half_xor, ih, Nat.testBit_xor, sel_xor', xor_four]
theorem gmf_sel (n : Nat) (c : Bool) (a b : Nat) : gmf n (sel c a) b = sel c (gmf n a b) := by cases c <;> simp [sel, gmf_left]
theorem gm_swap (n a u b : Nat) : gm (gmf n u b) a = gmf n (gm u a) b := by
  induction n generalizing u b with
  | zero => exact gmf_left 8 a
  | succ n ih =>
    have h1 : gm (tm u) a = tm (gm u a) := gmf_tm 8 u a
    have h2 := ih (tm u) (b / 2)
    rw [h1] at h2
    rw [gmf, gmf, ← h2]
    unfold gm
    rw [gmf_xor, gmf_sel]
theorem one_gm : ∀ b, b < 256 → gm 1 b = b := by decide +kernel
theorem gm_comm (a b : Nat) (ha : a < 256) (hb : b < 256) : gm a b = gm b a := by
  have := gm_swap 8 b 1 a
  change gm (gm 1 a) b = gm (gm 1 b) a at this
  rwa [one_gm a ha, one_gm b hb] at this
theorem gm_assoc (a b c : Nat) (ha : a < 256) (hb : b < 256) : gm (gm a b) c = gm a (gm b c) := by
  have := gm_swap 8 c b a
  change gm (gm b a) c = gm (gm b c) a at this
  rw [gm_comm a b ha hb, this, gm_comm _ _ (gm_lt b c hb) ha]
theorem gm_one (a : Nat) (ha : a < 256) : gm a 1 = a := by rw [gm_comm a 1 ha (by omega), one_gm a ha]
theorem gm_zero (a : Nat) : gm a 0 = 0 := gmf_zero 8 a
theorem zero_gm (a : Nat) : gm 0 a = 0 := gmf_left 8 a
theorem gm_dist (a b c : Nat) : gm a (b ^^^ c) = gm a b ^^^ gm a c := gmf_xor' 8 a b c
theorem gm_two (a : Nat) : gm a 2 = tm a := by
  have : gm a 2 = gm (tm a) 1 := by
    show gmf 8 a 2 = gmf 8 (tm a) 1
    rw [gmf, gmf_more 7 (tm a) 1 (by omega)]
    simp [sel]
  rw [this, gm_one _ (tm_lt a)]

/-- a power -/
def pw (a : Nat) : Nat → Nat
  | 0 => 1
  | n + 1 => gm (pw a n) a
theorem pw_lt (a n : Nat) : pw a n < 256 := by
  induction n with
  | zero => simp [pw]
  | succ n ih => exact gm_lt _ _ ih
theorem pw_add (a n m : Nat) : pw a (n + m) = gm (pw a n) (pw a m) := by
  induction m with
  | zero => rw [Nat.add_zero, pw, gm_one _ (pw_lt a n)]
  | succ m ih => rw [← Nat.add_assoc, pw, ih, pw, gm_assoc _ _ _ (pw_lt a n) (pw_lt a m)]
theorem pw_sq (a n : Nat) (ha : a < 256) : pw (gm a a) n = pw a (2 * n) := by
  induction n with
  | zero => rfl
  | succ n ih =>
    rw [pw, ih, show 2 * (n + 1) = 2 * n + 1 + 1 by omega, pw, pw, gm_assoc _ _ _ (pw_lt a _) ha]
/-- a round of squaring -/
theorem pw_round (p a n : Nat) (hp : p < 256) (ha : a < 256) : gm (if n % 2 = 1 then gm p a else p) (pw (gm a a) (n / 2)) = gm p (pw a n) := by
  rw [pw_sq a _ ha]
  by_cases h : n % 2 = 1
  · rw [if_pos h, gm_assoc _ _ _ hp ha]
    have h1 := pw_add a 1 (2 * (n / 2))
    rw [show 1 + 2 * (n / 2) = n by omega] at h1
    rw [h1, show pw a 1 = a from one_gm a ha]
  · rw [if_neg h, show 2 * (n / 2) = n by omega]
def sq (a : Nat) : Nat := gm a a
/-- the 255th power, by squares -/
def p255 (a : Nat) : Nat :=
  let a2 := sq a; let a4 := sq a2; let a8 := sq a4; let x := gm (gm (gm a a2) a4) a8
  gm x (sq (sq (sq (sq x))))
theorem pw_sq' (a n : Nat) : sq (pw a n) = pw a (2 * n) := by rw [sq, ← pw_add a n n, show n + n = 2 * n by omega]
theorem p255_eq (a : Nat) (ha : a < 256) : p255 a = pw a 255 := by
  have e1 : a = pw a 1 := (one_gm a ha).symm
  have h2 : sq a = pw a 2 := by have := pw_sq' a 1; rw [← e1] at this; exact this
  have h4 : sq (sq a) = pw a 4 := by rw [h2, pw_sq' a 2]
  have h8 : sq (sq (sq a)) = pw a 8 := by rw [h4, pw_sq' a 4]
  have hx : gm (gm (gm a (sq a)) (sq (sq a))) (sq (sq (sq a))) = pw a 15 := by
    have h3 : gm a (pw a 2) = pw a 3 := by have := pw_add a 1 2; rw [← e1] at this; exact this.symm
    rw [h8, h4, h2, h3, ← pw_add a 3 4, ← pw_add a 7 8]
  show gm (gm (gm (gm a (sq a)) (sq (sq a))) (sq (sq (sq a)))) (sq (sq (sq (sq (gm (gm (gm a (sq a)) (sq (sq a))) (sq (sq (sq a)))))))) = _
  rw [hx, pw_sq' a _, pw_sq' a _, pw_sq' a _, pw_sq' a _, ← pw_add a _ _]
theorem p255_one : ∀ a, a < 256 → a ≠ 0 → p255 a = 1 := by decide +kernel
theorem pw_255 (a : Nat) (ha : a < 256) (h : a ≠ 0) : pw a 255 = 1 := by rw [← p255_eq a ha, p255_one a ha h]
theorem pw_many (a n m : Nat) (ha : a < 256) (h : a ≠ 0) : pw a (255 * n + m) = pw a m := by
  induction n with
  | zero => simp
  | succ n ih =>
    rw [show 255 * (n + 1) + m = 255 + (255 * n + m) by omega, pw_add a _ _, ih, pw_255 a ha h, one_gm _ (pw_lt a m)]
theorem pw_mod (a n : Nat) (ha : a < 256) (h : a ≠ 0) : pw a (n % 255) = pw a n := by
  have := pw_many a (n / 255) (n % 255) ha h
  rw [← this]; congr 1; omega
theorem pw_nought (n : Nat) : pw 0 (n + 1) = 0 := gm_zero _

/-- the inverse -/
def iv (a : Nat) : Nat := pw a 254
theorem iv_lt (a : Nat) : iv a < 256 := pw_lt a 254
theorem iv_zero : iv 0 = 0 := pw_nought 253
theorem gm_iv (a : Nat) (ha : a < 256) (h : a ≠ 0) : gm a (iv a) = 1 := by
  rw [gm_comm a _ ha (iv_lt a)]; exact pw_255 a ha h
theorem iv_only (a b : Nat) (ha : a < 256) (hb : b < 256) (h : gm a b = 1) : b = iv a := by
  have h0 : a ≠ 0 := by rintro rfl; rw [zero_gm] at h; omega
  have h1 := gm_assoc b a (iv a) hb ha
  rw [gm_iv a ha h0, gm_one b hb, gm_comm b a hb ha, h, one_gm _ (iv_lt a)] at h1
  exact h1.symm

/-- the whole product of polynomials, k bits of the second factor told -/
def pr (a b : Nat) : Nat → Nat
  | 0 => 0
  | k + 1 => pr a b k ^^^ sel (b.testBit k) (a * 2 ^ k)
/-- what is left of it, k places told -/
def rd (p : Nat) : Nat → Nat
  | 0 => p
  | k + 1 => rd p k ^^^ sel ((rd p k).testBit (14 - k)) (283 * 2 ^ (6 - k))
theorem rd_xor (p q k : Nat) : rd (p ^^^ q) k = rd p k ^^^ rd q k := by
  induction k with
  | zero => rfl
  | succ k ih => rw [rd, rd, rd, ih, Nat.testBit_xor, sel_xor', xor_four]
def tmn (a : Nat) : Nat → Nat
  | 0 => a
  | k + 1 => tm (tmn a k)
theorem rd_shift : ∀ a, a < 256 → ∀ k, k < 8 → rd (a * 2 ^ k) 7 = tmn a k := by decide +kernel
theorem rd_zero : rd 0 7 = 0 := by decide
theorem tmn_tm (a k : Nat) : tmn (tm a) k = tmn a (k + 1) := by
  induction k with
  | zero => rfl
  | succ k ih => rw [tmn, ih]; rfl
/-- the product, its bits from below -/
def up (a b : Nat) : Nat → Nat
  | 0 => 0
  | k + 1 => up a b k ^^^ sel (b.testBit k) (tmn a k)
theorem up_first (a b k : Nat) : up a b (k + 1) = sel (b.testBit 0) a ^^^ up (tm a) (b / 2) k := by
  induction k with
  | zero => simp [up, tmn]
  | succ k ih => rw [up, ih, up, Nat.xor_assoc, tmn_tm, Nat.testBit_succ]
theorem up_gmf (a b k : Nat) : up a b k = gmf k a b := by
  induction k generalizing a b with
  | zero => rfl
  | succ k ih => rw [up_first, ih, gmf]
theorem rd_pr (a b : Nat) (ha : a < 256) : rd (pr a b 8) 7 = gm a b := by
  have h : ∀ k, k ≤ 8 → rd (pr a b k) 7 = up a b k := by
    intro k hk
    induction k with
    | zero => exact rd_zero
    | succ k ih =>
      rw [pr, rd_xor, ih (by omega), up]
      congr 1
      cases hc : b.testBit k with
      | false => simp [sel, rd_zero]
      | true => simpa [sel] using rd_shift a ha k (by omega)
  rw [h 8 (by omega), up_gmf]; rfl
theorem pr_lt (a b k : Nat) (ha : a < 256) (hk : k ≤ 8) : pr a b k < 65536 := by
  induction k with
  | zero => simp [pr]
  | succ k ih =>
    refine Nat.xor_lt_two_pow (n := 16) (ih (by omega)) (sel_lt _ _ _ ?_)
    have : 2 ^ k ≤ 2 ^ 7 := Nat.pow_le_pow_right (by omega) (by omega)
    calc a * 2 ^ k ≤ 255 * 2 ^ 7 := Nat.mul_le_mul (by omega) this
      _ < 2 ^ 16 := by omega
theorem rd_lt (p k : Nat) (hp : p < 65536) (hk : k ≤ 7) : rd p k < 65536 := by
  induction k with
  | zero => exact hp
  | succ k ih =>
    refine Nat.xor_lt_two_pow (n := 16) (ih (by omega)) (sel_lt _ _ _ ?_)
    have : 2 ^ (6 - k) ≤ 2 ^ 6 := Nat.pow_le_pow_right (by omega) (by omega)
    calc 283 * 2 ^ (6 - k) ≤ 283 * 2 ^ 6 := Nat.mul_le_mul (by omega) this
      _ < 2 ^ 16 := by omega
end Go.Proofs.Ytjiddmgnkldmkaa
