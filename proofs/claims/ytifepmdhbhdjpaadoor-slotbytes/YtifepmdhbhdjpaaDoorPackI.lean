/- Texts put together (a claim holds few files). No claim of its own. -/
import Derived.Test.YtifepmdhbhdjpaaDoorPackD
import Derived.Test.YtifepmdhbhdjpaaDoorPackH
import Derived.Test.YtifepmdhbhdjpaaDoorPackA
import Derived.Laws.BitsAllLaws
import Derived.Deep.RegionWith
import Derived.Test.YtifepmdhbhdjpaaDoorPackB
/- Worlds that part in bytes of some blocks alone; a right slot's bytes, read; the reference's. No claim of its own. -/
namespace Go.Proofs.YtifepmdhbhdjpaaDoor.so
open Go.RowKit Go.Proofs.YtifepmdhbhdjpaaDoor.fa Go.Proofs.YtifepmdhbhdjpaaDoor.he
set_option maxRecDepth 20000

/-- from w to w' bytes alone were written, in blocks from B on, below H -/
def Wr (B H : Nat) (w w' : World) : Prop := Below B w w' ∧ (∀ k, H ≤ k → w'.heap[k]? = w.heap[k]?) ∧ (∀ p v, w.cell? p = some v → (∀ x, v ≠ .int .u8 x) → w'.cell? p = some v) ∧
  (∀ p x, w.cell? p = some (.int .u8 x) → ∃ y, w'.cell? p = some (.int .u8 y)) ∧ ∀ p, w'.frozen? p = w.frozen? p
theorem Wr.refl (B H : Nat) (w : World) : Wr B H w w := ⟨Below.refl _ _, fun _ _ => rfl, fun _ _ h _ => h, fun _ x h => ⟨x, h⟩, fun _ => rfl⟩
theorem Wr.set {B H : Nat} {w w' : World} (h : Wr B H w w') {b o : Nat} {x : Int} (hc : w'.cell? ⟨b, o, none⟩ = some (.int .u8 x)) (hB : B ≤ b) (hH : b < H) (y : Int) : Wr B H w (w'.setCell ⟨b, o, none⟩ (.int .u8 y)) := by
  obtain ⟨h1, h2, h3, h4, h5⟩ := h
  refine ⟨h1.setCell hB _, fun k hk => ?_, fun p v hv hn => ?_, fun p z hz => ?_, fun p => by rw [World.frozen?_setCell]; exact h5 p⟩
  · rw [Below.heap_setCell w' ⟨b, o, none⟩ _ k (by show k ≠ b; omega)]; exact h2 k hk
  · have hv' := h3 p v hv hn
    rw [World.cell?_setCell_other _ _ _ _ (by intro e; rw [e] at hc; rw [hc] at hv'; injection hv' with hv'; exact hn _ hv'.symm)]
    exact hv'
  · by_cases e : p = ⟨b, o, none⟩
    · subst e
      exact ⟨y, World.cell?_setCell_same _ _ _ hc⟩
    · obtain ⟨u, hu⟩ := h4 p z hz
      exact ⟨u, by rw [World.cell?_setCell_other _ _ _ _ (fun q => e q.symm)]; exact hu⟩
/-- bytes from H on stay -/
theorem Wr.bow {B H : Nat} {w w' : World} (h : Wr B H w w') {v : Value} {xs : List Int} (hv : Bow H w v xs) : Byt w' v xs := by
  obtain ⟨hy, ho⟩ := hv
  obtain ⟨ao, cap, rfl, h1, h2, h3, h4, h5⟩ := hy
  refine ⟨ao, cap, rfl, h1, h2, h3, h4, fun hp => ?_⟩
  obtain ⟨b, off, rfl, hc⟩ := h5 hp
  obtain ⟨b', off', cap', e, hB, _⟩ := ho hp
  cases e
  exact ⟨b, off, rfl, fun t ht => by rw [World.cell?_of_block (w := w) (w' := w') (a := ⟨b, off + t, none⟩) (h.2.1 b hB)]; exact hc t ht⟩
/-- a byte that may be written -/
theorem Wr.byte {B H : Nat} {w w' : World} (h : Wr B H w w') {co : Option Addr} {n cc : Nat} {xs : List Int} (hv : Bow B w (.slice co n cc) xs) (k : Nat) (hk : k < xs.length) : ∃ b off y, co = some ⟨b, off, none⟩ ∧ w'.cell? ⟨b, off + k, none⟩ = some (.int .u8 y) ∧ w'.frozen? ⟨b, off + k, none⟩ = false := by
  obtain ⟨hy, ho⟩ := hv
  obtain ⟨ao, cap, e, h1, h2, h3, h4, h5⟩ := hy
  cases e
  obtain ⟨b, off, rfl, hc⟩ := h5 (by omega)
  obtain ⟨b', off', cap', e, hB, hf⟩ := ho (by omega)
  cases e
  obtain ⟨y, hy⟩ := h.2.2.2.1 _ _ (hc k hk)
  exact ⟨b, off, y, rfl, hy, by rw [h.2.2.2.2]; exact hf k hk⟩
/-- where such bytes lie -/
theorem bow_at {B : Nat} {w : World} {co : Option Addr} {n cc : Nat} {xs : List Int} (hv : Bow B w (.slice co n cc) xs) (hp : 0 < xs.length) : ∃ b off, co = some ⟨b, off, none⟩ ∧ B ≤ b ∧ b < w.heap.size := by
  obtain ⟨hy, ho⟩ := hv
  obtain ⟨ao, cap, e, h1, h2, h3, h4, h5⟩ := hy
  cases e
  obtain ⟨b, off, rfl, hc⟩ := h5 hp
  obtain ⟨b', off', cap', e, hB, hf⟩ := ho hp
  cases e
  exact ⟨b, off, rfl, hB, World.block_lt_of_cell? w _ (hc 0 hp)⟩
theorem byt_low {B : Nat} {w w' : World} {g o n c : Nat} {xs : List Int} (h : Byt w (.slice (some ⟨g, o, none⟩) n c) xs) (hg : g < B) (hb : Below B w w') : Byt w' (.slice (some ⟨g, o, none⟩) n c) xs := by
  obtain ⟨ao, cap, e, h1, h2, h3, h4, h5⟩ := h
  cases e
  refine ⟨_, _, rfl, h1, h2, h3, h4, fun hp => ?_⟩
  obtain ⟨b, off, e', hc⟩ := h5 hp
  cases e'
  exact ⟨g, o, rfl, fun t ht => by rw [World.cell?_of_block (w := w) (w' := w') (a := ⟨g, o + t, none⟩) (hb.block g hg)]; exact hc t ht⟩
theorem byt_lt {w : World} {g o n c : Nat} {xs : List Int} (h : Byt w (.slice (some ⟨g, o, none⟩) n c) xs) (hp : 0 < xs.length) : g < w.heap.size := by
  obtain ⟨ao, cap, e, h1, h2, h3, h4, h5⟩ := h
  cases e
  obtain ⟨b, off, e', hc⟩ := h5 hp
  cases e'
  exact World.block_lt_of_cell? w _ (hc 0 hp)
/-- a right slot's bytes are read as it was -/
theorem read_sb (u : Bool) (n e t : Int) (xs : List Int) (v : Value) (w : World) (hS : Sb n e t) (ha : AllB xs) (hr : Rs u n e t xs) (hb : Byt w v (so.sb u n e t xs)) (hT : Tbl w) :
    Calls Tryd.prog 12 #[v] w fun x w' => ∃ yo yc, x = .returned (.tuple #[.agg (sv u n e t (.slice yo xs.length yc)).toArray, .int .i64 0]) ∧ Byt w' (.slice yo xs.length yc) xs ∧ Below w.heap.size w w' := by
  have hl := sb_len hr
  cases u
  · obtain ⟨h1, h2, h3, h4⟩ : n = 0 ∧ e = 0 ∧ t = 0 ∧ xs.length = 0 := hr
    subst h1 h2 h3
    have hx : xs = [] := List.eq_nil_of_length_eq_zero h4
    subst hx
    exact (read_free v w hb hT).mono fun _ w' ⟨a, b⟩ => ⟨none, 0, a, Byt.nil w', b⟩
  · obtain ⟨h1, h2, h3⟩ : 1 ≤ n ∧ n ≤ 65535 ∧ xs.length = 104 := hr
    have hb : Byt w v (sbt n e t xs) := hb
    have g := g_sbt (ws := xs) (n := n) (e := e) (t := t) ⟨by omega, by omega⟩ hS.2.1 hS.2.2 h3
    have z := read_yes v _ w hb hl hT ⟨rfl, rfl, rfl, rfl, by rw [g.1]; exact h1, by rw [g.1]; exact h2⟩
    rw [g.1, g.2.1, g.2.2.1, g.2.2.2] at z
    rw [h3]
    exact z
theorem rbytes_sb (u : Bool) (n e t : Int) (v : Value) (xs : List Int) (w : World) (hv : Byt w v xs) (hS : Sb n e t) (hr : Rs u n e t xs) :
    Calls Tryd.prog 14 #[.agg (sv u n e t v).toArray] w fun x w' => ∃ r, x = .returned r ∧ Byt w' r (so.sb u n e t xs) ∧ Below w.heap.size w w' := by
  cases u
  · exact rbytes_free n e t v w
  · obtain ⟨h1, h2, h3⟩ : 1 ≤ n ∧ n ≤ 65535 ∧ xs.length = 104 := hr
    exact rbytes_used n e t v xs w hv hS ⟨h1, h2⟩ h3
end Go.Proofs.YtifepmdhbhdjpaaDoor.so

/- The field of 256 elements, as numbers: products, powers, inverses. No claim of its own. -/
namespace Go.Proofs.YtifepmdhbhdjpaaDoor
open Go.RowKit
set_option maxRecDepth 20000

/-- a, if c -/
def sel (c : Bool) (a : Nat) : Nat := bif c then a else 0
theorem sel_xor (c : Bool) (a b : Nat) : sel c (a ^^^ b) = sel c a ^^^ sel c b := by cases c <;> simp [sel]
theorem sel_xor' (c d : Bool) (a : Nat) : sel (c ^^ d) a = sel c a ^^^ sel d a := by cases c <;> cases d <;> simp [sel]
theorem sel_lt (c : Bool) (a n : Nat) (h : a < n) : sel c a < n := by cases c <;> simp [sel] <;> omega

/-- a times x -/
def tm (a : Nat) : Nat := (2 * a % 256) ^^^ sel (a.testBit 7) 27
theorem xor_lt (a b : Nat) (ha : a < 256) (hb : b < 256) : a ^^^ b < 256 := Nat.xor_lt_two_pow (n := 8) ha hb
theorem tm_lt (a : Nat) : tm a < 256 := xor_lt _ _ (Nat.mod_lt _ (by omega)) (sel_lt _ _ _ (by omega))
theorem tm_zero : tm 0 = 0 := by decide
theorem xor_four (a b c d : Nat) : (a ^^^ b) ^^^ (c ^^^ d) = (a ^^^ c) ^^^ (b ^^^ d) := by
  rw [Nat.xor_assoc, Nat.xor_assoc, ← Nat.xor_assoc b c d, Nat.xor_comm b c, Nat.xor_assoc c b d]
theorem two_bit (x i : Nat) : (2 * x).testBit (i + 1) = x.testBit i := by rw [Nat.testBit_succ, show 2 * x / 2 = x by omega]
theorem tm_xor (a b : Nat) : tm (a ^^^ b) = tm a ^^^ tm b := by
  have h : 2 * (a ^^^ b) % 256 = (2 * a % 256) ^^^ (2 * b % 256) := by
    apply Nat.eq_of_testBit_eq
    intro i
    rw [show 256 = 2 ^ 8 from rfl, Nat.testBit_xor, Nat.testBit_mod_two_pow, Nat.testBit_mod_two_pow, Nat.testBit_mod_two_pow]
    cases i with
    | zero => simp
    | succ i =>
      rw [two_bit, two_bit, two_bit]
      rw [Nat.testBit_xor]
      by_cases h : i + 1 < 8 <;> simp [h]
  unfold tm
  rw [h, Nat.testBit_xor, sel_xor', xor_four]
theorem tm_sel (c : Bool) (a : Nat) : tm (sel c a) = sel c (tm a) := by cases c <;> simp [sel, tm_zero]

/-- the product, n bits of the second factor told -/
def gmf : Nat → Nat → Nat → Nat
  | 0, _, _ => 0
  | n + 1, a, b => sel (b.testBit 0) a ^^^ gmf n (tm a) (b / 2)
def gm (a b : Nat) : Nat := gmf 8 a b
theorem gmf_lt (n a b : Nat) (ha : a < 256) : gmf n a b < 256 := by
  induction n generalizing a b with
  | zero => simp [gmf]
  | succ n ih => exact xor_lt _ _ (sel_lt _ _ _ ha) (ih _ _ (tm_lt a))
theorem gm_lt (a b : Nat) (ha : a < 256) : gm a b < 256 := gmf_lt 8 a b ha
theorem gmf_zero (n a : Nat) : gmf n a 0 = 0 := by
  induction n generalizing a with
  | zero => rfl
  | succ n ih => simp [gmf, ih, sel]
theorem gmf_left (n b : Nat) : gmf n 0 b = 0 := by
  induction n generalizing b with
  | zero => rfl
  | succ n ih => simp [gmf, tm_zero, ih, sel]
theorem gmf_more (n a b : Nat) (h : b < 2 ^ n) : gmf (n + 1) a b = gmf n a b := by
  induction n generalizing a b with
  | zero =>
    have : b = 0 := by omega
    subst this; simp [gmf, sel]
  | succ n ih =>
    rw [gmf, ih (tm a) (b / 2) (by rw [Nat.pow_succ] at h; omega)]
    rfl
theorem gmf_xor (n a a' b : Nat) : gmf n (a ^^^ a') b = gmf n a b ^^^ gmf n a' b := by
  induction n generalizing a a' b with
  | zero => simp [gmf]
  | succ n ih => rw [gmf, gmf, gmf, tm_xor, ih, sel_xor, xor_four]
theorem gmf_tm (n a b : Nat) : gmf n (tm a) b = tm (gmf n a b) := by
  induction n generalizing a b with
  | zero => simp [gmf, tm_zero]
  | succ n ih => rw [gmf, gmf, tm_xor, tm_sel, ih]
theorem half_xor (b b' : Nat) : (b ^^^ b') / 2 = b / 2 ^^^ b' / 2 := by
  have := Nat.shiftRight_xor_distrib (a := b) (b := b') (i := 1)
  simpa [Nat.shiftRight_eq_div_pow] using this
theorem gmf_xor' (n a b b' : Nat) : gmf n a (b ^^^ b') = gmf n a b ^^^ gmf n a b' := by
  induction n generalizing a b b' with
  | zero => simp [gmf]
  | succ n ih => rw [gmf, gmf, gmf, half_xor, ih, Nat.testBit_xor, sel_xor', xor_four]
theorem gmf_sel (n : Nat) (c : Bool) (a b : Nat) : gmf n (sel c a) b = sel c (gmf n a b) := by cases c <;> simp [sel, gmf_left]
theorem gm_swap (n a u b : Nat) : gm (gmf n u b) a = gmf n (gm u a) b := by
  induction n generalizing u b with
  | zero => exact gmf_left 8 a
  | succ n ih =>
    have h1 : gm (tm u) a = tm (gm u a) := gmf_tm 8 u a
    have h2 := ih (tm u) (b / 2)
    rw [h1] at h2
    rw [gmf, gmf, ← h2]
    unfold gm
    rw [gmf_xor, gmf_sel]
theorem one_gm : ∀ b, b < 256 → gm 1 b = b := by decide +kernel
theorem gm_comm (a b : Nat) (ha : a < 256) (hb : b < 256) : gm a b = gm b a := by
  have := gm_swap 8 b 1 a
  change gm (gm 1 a) b = gm (gm 1 b) a at this
  rwa [one_gm a ha, one_gm b hb] at this
theorem gm_assoc (a b c : Nat) (ha : a < 256) (hb : b < 256) : gm (gm a b) c = gm a (gm b c) := by
  have := gm_swap 8 c b a
  change gm (gm b a) c = gm (gm b c) a at this
  rw [gm_comm a b ha hb, this, gm_comm _ _ (gm_lt b c hb) ha]
theorem gm_one (a : Nat) (ha : a < 256) : gm a 1 = a := by rw [gm_comm a 1 ha (by omega), one_gm a ha]
theorem gm_zero (a : Nat) : gm a 0 = 0 := gmf_zero 8 a
theorem zero_gm (a : Nat) : gm 0 a = 0 := gmf_left 8 a
theorem gm_dist (a b c : Nat) : gm a (b ^^^ c) = gm a b ^^^ gm a c := gmf_xor' 8 a b c
theorem gm_two (a : Nat) : gm a 2 = tm a := by
  have : gm a 2 = gm (tm a) 1 := by
    show gmf 8 a 2 = gmf 8 (tm a) 1
    rw [gmf, gmf_more 7 (tm a) 1 (by omega)]
    simp [sel]
  rw [this, gm_one _ (tm_lt a)]

/-- a power -/
def pw (a : Nat) : Nat → Nat
  | 0 => 1
  | n + 1 => gm (pw a n) a
theorem pw_lt (a n : Nat) : pw a n < 256 := by
  induction n with
  | zero => simp [pw]
  | succ n ih => exact gm_lt _ _ ih
theorem pw_add (a n m : Nat) : pw a (n + m) = gm (pw a n) (pw a m) := by
  induction m with
  | zero => rw [Nat.add_zero, pw, gm_one _ (pw_lt a n)]
  | succ m ih => rw [← Nat.add_assoc, pw, ih, pw, gm_assoc _ _ _ (pw_lt a n) (pw_lt a m)]
theorem pw_sq (a n : Nat) (ha : a < 256) : pw (gm a a) n = pw a (2 * n) := by
  induction n with
  | zero => rfl
  | succ n ih =>
    rw [pw, ih, show 2 * (n + 1) = 2 * n + 1 + 1 by omega, pw, pw, gm_assoc _ _ _ (pw_lt a _) ha]
/-- a round of squaring -/
theorem pw_round (p a n : Nat) (hp : p < 256) (ha : a < 256) : gm (if n % 2 = 1 then gm p a else p) (pw (gm a a) (n / 2)) = gm p (pw a n) := by
  rw [pw_sq a _ ha]
  by_cases h : n % 2 = 1
  · rw [if_pos h, gm_assoc _ _ _ hp ha]
    have h1 := pw_add a 1 (2 * (n / 2))
    rw [show 1 + 2 * (n / 2) = n by omega] at h1
    rw [h1, show pw a 1 = a from one_gm a ha]
  · rw [if_neg h, show 2 * (n / 2) = n by omega]
def sq (a : Nat) : Nat := gm a a
/-- the 255th power, by squares -/
def p255 (a : Nat) : Nat :=
  let a2 := sq a; let a4 := sq a2; let a8 := sq a4; let x := gm (gm (gm a a2) a4) a8
  gm x (sq (sq (sq (sq x))))
theorem pw_sq' (a n : Nat) : sq (pw a n) = pw a (2 * n) := by rw [sq, ← pw_add a n n, show n + n = 2 * n by omega]
theorem p255_eq (a : Nat) (ha : a < 256) : p255 a = pw a 255 := by
  have e1 : a = pw a 1 := (one_gm a ha).symm
  have h2 : sq a = pw a 2 := by have := pw_sq' a 1; rw [← e1] at this; exact this
  have h4 : sq (sq a) = pw a 4 := by rw [h2, pw_sq' a 2]
  have h8 : sq (sq (sq a)) = pw a 8 := by rw [h4, pw_sq' a 4]
  have hx : gm (gm (gm a (sq a)) (sq (sq a))) (sq (sq (sq a))) = pw a 15 := by
    have h3 : gm a (pw a 2) = pw a 3 := by have := pw_add a 1 2; rw [← e1] at this; exact this.symm
    rw [h8, h4, h2, h3, ← pw_add a 3 4, ← pw_add a 7 8]
  show gm (gm (gm (gm a (sq a)) (sq (sq a))) (sq (sq (sq a)))) (sq (sq (sq (sq (gm (gm (gm a (sq a)) (sq (sq a))) (sq (sq (sq a)))))))) = _
  rw [hx, pw_sq' a _, pw_sq' a _, pw_sq' a _, pw_sq' a _, ← pw_add a _ _]
theorem p255_one : ∀ a, a < 256 → a ≠ 0 → p255 a = 1 := by decide +kernel
theorem pw_255 (a : Nat) (ha : a < 256) (h : a ≠ 0) : pw a 255 = 1 := by rw [← p255_eq a ha, p255_one a ha h]
theorem pw_many (a n m : Nat) (ha : a < 256) (h : a ≠ 0) : pw a (255 * n + m) = pw a m := by
  induction n with
  | zero => simp
  | succ n ih =>
    rw [show 255 * (n + 1) + m = 255 + (255 * n + m) by omega, pw_add a _ _, ih, pw_255 a ha h, one_gm _ (pw_lt a m)]
theorem pw_mod (a n : Nat) (ha : a < 256) (h : a ≠ 0) : pw a (n % 255) = pw a n := by
  have := pw_many a (n / 255) (n % 255) ha h
  rw [← this]; congr 1; omega
theorem pw_nought (n : Nat) : pw 0 (n + 1) = 0 := gm_zero _

/-- the inverse -/
def iv (a : Nat) : Nat := pw a 254
theorem iv_lt (a : Nat) : iv a < 256 := pw_lt a 254
theorem iv_zero : iv 0 = 0 := pw_nought 253
theorem gm_iv (a : Nat) (ha : a < 256) (h : a ≠ 0) : gm a (iv a) = 1 := by
  rw [gm_comm a _ ha (iv_lt a)]; exact pw_255 a ha h
theorem iv_only (a b : Nat) (ha : a < 256) (hb : b < 256) (h : gm a b = 1) : b = iv a := by
  have h0 : a ≠ 0 := by rintro rfl; rw [zero_gm] at h; omega
  have h1 := gm_assoc b a (iv a) hb ha
  rw [gm_iv a ha h0, gm_one b hb, gm_comm b a hb ha, h, one_gm _ (iv_lt a)] at h1
  exact h1.symm

/-- the whole product of polynomials, k bits of the second factor told -/
def pr (a b : Nat) : Nat → Nat
  | 0 => 0
  | k + 1 => pr a b k ^^^ sel (b.testBit k) (a * 2 ^ k)
/-- what is left of it, k places told -/
def rd (p : Nat) : Nat → Nat
  | 0 => p
  | k + 1 => rd p k ^^^ sel ((rd p k).testBit (14 - k)) (283 * 2 ^ (6 - k))
theorem rd_xor (p q k : Nat) : rd (p ^^^ q) k = rd p k ^^^ rd q k := by
  induction k with
  | zero => rfl
  | succ k ih => rw [rd, rd, rd, ih, Nat.testBit_xor, sel_xor', xor_four]
def tmn (a : Nat) : Nat → Nat
  | 0 => a
  | k + 1 => tm (tmn a k)
theorem rd_shift : ∀ a, a < 256 → ∀ k, k < 8 → rd (a * 2 ^ k) 7 = tmn a k := by decide +kernel
theorem rd_zero : rd 0 7 = 0 := by decide
theorem tmn_tm (a k : Nat) : tmn (tm a) k = tmn a (k + 1) := by
  induction k with
  | zero => rfl
  | succ k ih => rw [tmn, ih]; rfl
/-- the product, its bits from below -/
def up (a b : Nat) : Nat → Nat
  | 0 => 0
  | k + 1 => up a b k ^^^ sel (b.testBit k) (tmn a k)
theorem up_first (a b k : Nat) : up a b (k + 1) = sel (b.testBit 0) a ^^^ up (tm a) (b / 2) k := by
  induction k with
  | zero => simp [up, tmn]
  | succ k ih => rw [up, ih, up, Nat.xor_assoc, tmn_tm, Nat.testBit_succ]
theorem up_gmf (a b k : Nat) : up a b k = gmf k a b := by
  induction k generalizing a b with
  | zero => rfl
  | succ k ih => rw [up_first, ih, gmf]
theorem rd_pr (a b : Nat) (ha : a < 256) : rd (pr a b 8) 7 = gm a b := by
  have h : ∀ k, k ≤ 8 → rd (pr a b k) 7 = up a b k := by
    intro k hk
    induction k with
    | zero => exact rd_zero
    | succ k ih =>
      rw [pr, rd_xor, ih (by omega), up]
      congr 1
      cases hc : b.testBit k with
      | false => simp [sel, rd_zero]
      | true => simpa [sel] using rd_shift a ha k (by omega)
  rw [h 8 (by omega), up_gmf]; rfl
theorem pr_lt (a b k : Nat) (ha : a < 256) (hk : k ≤ 8) : pr a b k < 65536 := by
  induction k with
  | zero => simp [pr]
  | succ k ih =>
    refine Nat.xor_lt_two_pow (n := 16) (ih (by omega)) (sel_lt _ _ _ ?_)
    have : 2 ^ k ≤ 2 ^ 7 := Nat.pow_le_pow_right (by omega) (by omega)
    calc a * 2 ^ k ≤ 255 * 2 ^ 7 := Nat.mul_le_mul (by omega) this
      _ < 2 ^ 16 := by omega
theorem rd_lt (p k : Nat) (hp : p < 65536) (hk : k ≤ 7) : rd p k < 65536 := by
  induction k with
  | zero => exact hp
  | succ k ih =>
    refine Nat.xor_lt_two_pow (n := 16) (ih (by omega)) (sel_lt _ _ _ ?_)
    have : 2 ^ (6 - k) ≤ 2 ^ 6 := Nat.pow_le_pow_right (by omega) (by omega)
    calc 283 * 2 ^ (6 - k) ≤ 283 * 2 ^ 6 := Nat.mul_le_mul (by omega) this
      _ < 2 ^ 16 := by omega
end Go.Proofs.YtifepmdhbhdjpaaDoor

/- What field's Times, Mul, Pow and Inv answer. No claim of its own. -/
namespace Go.Proofs.YtifepmdhbhdjpaaDoor
open Go.RowKit
set_option maxRecDepth 20000

theorem and128 : ∀ a : Nat, a < 256 → bits .and .u8 (a : Int) 128 = if a.testBit 7 then 128 else 0 := by decide +kernel
theorem tm_hi : ∀ a : Nat, a < 256 → a.testBit 7 = true → bits .xor .u8 ((a : Int) * 2 % 256) 27 = (tm a : Int) := by decide +kernel
theorem tm_lo : ∀ a : Nat, a < 256 → a.testBit 7 = false → (a : Int) * 2 % 256 = (tm a : Int) := by decide +kernel
theorem and1 : ∀ a : Nat, a < 256 → bits .and .u8 (a : Int) 1 = if a.testBit 0 then 1 else 0 := by decide +kernel

set_option maxHeartbeats 1000000 in
theorem times_any (a : Nat) (w : World) (ha : a < 256) :
    Calls Tryd.prog 65 #[.int .u8 a] w fun e w' => e = .returned (.int .u8 (tm a)) ∧ w' = w := by
  have HA : Hid (a < 256) := ha
  have h1 := and128 a ha
  have hb : 0 ≤ (a : Int) ∧ (a : Int) ≤ 255 := by omega
  cases hc : a.testBit 7 with
  | true =>
    rw [hc, if_pos rfl] at h1
    have HC : Hid (a.testBit 7 = true) := hc
    clear hc
    go_enter Tryd.func65, Tryd.ntmps65
    go_wp2
    go_ret
    exact ⟨ret_int (tm_hi a HA.out HC.out), rfl⟩
  | false =>
    rw [hc, if_neg (by decide)] at h1
    have HC : Hid (a.testBit 7 = false) := hc
    clear hc
    go_enter Tryd.func65, Tryd.ntmps65
    go_wp2
    go_ret
    exact ⟨ret_int (tm_lo a HA.out HC.out), rfl⟩

set_option maxHeartbeats 1000000 in
theorem mul_any (a b : Nat) (w : World) (ha : a < 256) (hb : b < 256) :
    Calls Tryd.prog 64 #[.int .u8 a, .int .u8 b] w fun e w' => e = .returned (.int .u8 (gm a b)) ∧ w' = w := by
  have HA : Hid (a < 256) := ha
  have HB : Hid (b < 256) := hb
  clear ha hb
  go_enter Tryd.func64, Tryd.ntmps64
  go_wp2
  go_loop [0, 1, 5] (fun x y s => ∃ n x' y' s' : Nat, n ≤ 8 ∧ x = .int .u8 x' ∧ y = .int .u8 y' ∧ s = .int .u8 s' ∧ Hid (x' < 256 ∧ y' < 2 ^ n ∧ s' < 256 ∧ s' ^^^ gmf n x' y' = gm a b)) (fun _ y _ => (intOf y).toNat)
  case atStart => exact ⟨8, a, b, 0, by omega, rfl, rfl, rfl, ⟨HA.out, HB.out, by omega, by simp [gm]⟩⟩
  case round =>
    obtain ⟨n, x, y, s, hn, rfl, rfl, rfl, H⟩ := hrel
    have hy8 : y < 256 := Nat.lt_of_lt_of_le H.out.2.1 (show 2 ^ n ≤ 2 ^ 8 from Nat.pow_le_pow_right (by omega) hn)
    have hx8 := H.out.1
    have hs8 := H.out.2.2.1
    by_cases hy : y = 0
    · subst hy
      go_wp2
      go_ret
      refine ⟨ret_int ?_, rfl⟩
      have := H.out.2.2.2
      rw [gmf_zero, Nat.xor_zero] at this
      rw [this]
    · obtain ⟨m, rfl⟩ : ∃ m, n = m + 1 := by
        cases n with
        | zero => have := H.out.2.1; omega
        | succ m => exact ⟨m, rfl⟩
      have h1 := and1 y hy8
      have h2 := u8_xor_nat s x hs8 hx8
      have h3 : y / 2 < 2 ^ m := by have := H.out.2.1; rw [Nat.pow_succ] at this; omega
      have h4 := H.out.2.2.2
      rw [gmf, ← Nat.xor_assoc] at h4
      have HS : Hid (x < 256 ∧ s < 256 ∧ y / 2 < 2 ^ m ∧ (s ^^^ sel (y.testBit 0) x) ^^^ gmf m (tm x) (y / 2) = gm a b) := ⟨hx8, hs8, h3, h4⟩
      clear H h3 h4 hs8
      cases hc : y.testBit 0 with
      | true =>
        rw [hc, if_pos rfl] at h1
        rw [hc] at HS
        clear hc
        go_wp2_with (go_at_call 65; refine (times_any x _ HS.out.1).mono ?_; rintro e w' ⟨rfl, hw⟩; obtain rfl := hw.symm)
        go_round
        case rel => exact ⟨m, tm x, y / 2, s ^^^ x, by omega, rfl, by simp, rfl, ⟨tm_lt x, HS.out.2.2.1, xor_lt _ _ HS.out.2.1 HS.out.1, HS.out.2.2.2⟩⟩
        case measure => simp [intOf]; omega
      | false =>
        rw [hc, if_neg (by decide)] at h1
        rw [hc] at HS
        clear hc h2
        go_wp2_with (go_at_call 65; refine (times_any x _ HS.out.1).mono ?_; rintro e w' ⟨rfl, hw⟩; obtain rfl := hw.symm)
        go_round
        case rel => exact ⟨m, tm x, y / 2, s, by omega, rfl, by simp, rfl, ⟨tm_lt x, HS.out.2.2.1, HS.out.2.1, by have := HS.out.2.2.2; simpa [sel] using this⟩⟩
        case measure => simp [intOf]; omega

theorem i64_and1 (n : Int) : bits .and .i64 n 1 = n % 2 := by
  have h1 : (BitVec.ofInt 64 1).toNat = 2 ^ 1 - 1 := by decide
  have key : (BitVec.ofInt 64 n &&& BitVec.ofInt 64 1).toNat = (n % ((2 ^ 64 : Nat) : Int)).toNat % 2 ^ 1 := by
    rw [BitVec.toNat_and, BitVec.toNat_ofInt, h1, Nat.and_two_pow_sub_one_eq_mod]
  show IntKind.i64.wrap ((BitVec.ofInt 64 n &&& BitVec.ofInt 64 1).toNat : Nat) = n % 2
  rw [key, IntKind.wrap_i64]
  omega

set_option maxHeartbeats 1000000 in
theorem pow_any (a : Nat) (n : Int) (w : World) (ha : a < 256) (hn : n ≤ 9223372036854775807) :
    Calls Tryd.prog 58 #[.int .u8 a, .int .i64 n] w fun e w' => e = .returned (.int .u8 (pw a n.toNat)) ∧ w' = w := by
  have HA : Hid (a < 256) := ha
  clear ha
  go_enter Tryd.func58, Tryd.ntmps58
  go_wp2
  go_loop [0, 1, 5] (fun x y s => ∃ x' s' : Nat, ∃ y' : Int, x = .int .u8 x' ∧ y = .int .i64 y' ∧ s = .int .u8 s' ∧ y' ≤ 9223372036854775807 ∧ Hid (x' < 256 ∧ s' < 256 ∧ gm s' (pw x' y'.toNat) = pw a n.toNat)) (fun _ y _ => (intOf y).toNat)
  case atStart => exact ⟨a, 1, n, rfl, rfl, rfl, hn, ⟨HA.out, by omega, one_gm _ (pw_lt _ _)⟩⟩
  case round =>
    obtain ⟨x, s, y, rfl, rfl, rfl, hy, H⟩ := hrel
    by_cases h0 : 0 < y
    · have h1 := i64_and1 y
      have HR := pw_round s x y.toNat H.out.2.1 H.out.1
      rw [H.out.2.2, show y.toNat / 2 = (y / 2).toNat by omega] at HR
      have HS : Hid (x < 256 ∧ s < 256 ∧ gm (if y.toNat % 2 = 1 then gm s x else s) (pw (gm x x) (y / 2).toNat) = pw a n.toNat) := ⟨H.out.1, H.out.2.1, HR⟩
      clear H HR
      by_cases hc : y % 2 = 1
      · rw [if_pos (by omega)] at HS
        rw [hc] at h1
        go_wp2_with (first
          | (go_at_call_of 64 (Value.int IntKind.u8 (s : Int)); refine (mul_any s x _ HS.out.2.1 HS.out.1).mono ?_; rintro e w' ⟨rfl, hw⟩; obtain rfl := hw.symm)
          | (go_at_call_of 64 (Value.int IntKind.u8 (x : Int)); refine (mul_any x x _ HS.out.1 HS.out.1).mono ?_; rintro e w' ⟨rfl, hw⟩; obtain rfl := hw.symm))
        go_round
        case rel => exact ⟨gm x x, gm s x, y / 2, rfl, by go_num, rfl, by omega, ⟨gm_lt _ _ HS.out.1, gm_lt _ _ HS.out.2.1, HS.out.2.2⟩⟩
        case measure => simp [intOf]; omega
      · rw [if_neg (by omega)] at HS
        have hc : y % 2 = 0 := by omega
        rw [hc] at h1
        go_wp2_with (go_at_call 64; refine (mul_any x x _ HS.out.1 HS.out.1).mono ?_; rintro e w' ⟨rfl, hw⟩; obtain rfl := hw.symm)
        go_round
        case rel => exact ⟨gm x x, s, y / 2, rfl, by go_num, rfl, by omega, ⟨gm_lt _ _ HS.out.1, HS.out.2.1, HS.out.2.2⟩⟩
        case measure => simp [intOf]; omega
    · have h1 : y.toNat = 0 := by omega
      have HE : Hid (s = pw a n.toNat) := by
        have := H.out.2.2
        rw [h1, pw, gm_one _ H.out.2.1] at this
        exact this
      clear H
      go_wp2
      go_ret
      exact ⟨ret_int (by rw [HE.out]), rfl⟩
end Go.Proofs.YtifepmdhbhdjpaaDoor

/- What the reference's bit, power, Mul, Pow and Inv answer. No claim of its own. -/
namespace Go.Proofs.YtifepmdhbhdjpaaDoor
open Go.RowKit
set_option maxRecDepth 20000

/-- a bit, as a number -/
def bt (n i : Nat) : Nat := n / 2 ^ i % 2
theorem bt_of (n i : Nat) : bt n i = if n.testBit i then 1 else 0 := by
  rw [Nat.testBit_eq_decide_div_mod_eq, bt]
  by_cases h : n / 2 ^ i % 2 = 1
  · simp [h]
  · simp [h]; omega
def hv (n k : Nat) : Nat := n / 2 ^ k
theorem hv_succ (n k : Nat) : hv n k / 2 = hv n (k + 1) := by rw [hv, hv, Nat.div_div_eq_div_mul, ← Nat.pow_succ]
theorem hv_le (n k : Nat) : hv n k ≤ n := Nat.div_le_self _ _

theorem i64_xor_nat (a b : Nat) (ha : a < 65536) (hb : b < 65536) : bits .xor .i64 (a : Int) (b : Int) = ((a ^^^ b : Nat) : Int) := by
  have hx : a ^^^ b < 2 ^ 16 := Nat.xor_lt_two_pow (by omega) (by omega)
  show IntKind.i64.wrap ((BitVec.ofInt 64 (a : Int) ^^^ BitVec.ofInt 64 (b : Int)).toNat : Int) = _
  rw [BitVec.toNat_xor, BitVec.ofInt_natCast, BitVec.ofInt_natCast, BitVec.toNat_ofNat, BitVec.toNat_ofNat, Nat.mod_eq_of_lt (by omega), Nat.mod_eq_of_lt (by omega), IntKind.wrap_i64]
  omega
end Go.Proofs.YtifepmdhbhdjpaaDoor

/- What AES puts for bytes, as numbers: the two tables, the definition by inverses. No claim of its own. -/
namespace Go.Proofs.YtifepmdhbhdjpaaDoor
open Go.RowKit
set_option maxRecDepth 20000

/-- what is put for each byte -/
def ptab : List Int := [99, 124, 119, 123, 242, 107, 111, 197, 48, 1, 103, 43, 254, 215, 171, 118, 202, 130, 201, 125, 250, 89, 71, 240, 173, 212, 162, 175, 156, 164, 114, 192,
  183, 253, 147, 38, 54, 63, 247, 204, 52, 165, 229, 241, 113, 216, 49, 21, 4, 199, 35, 195, 24, 150, 5, 154, 7, 18, 128, 226, 235, 39, 178, 117,
  9, 131, 44, 26, 27, 110, 90, 160, 82, 59, 214, 179, 41, 227, 47, 132, 83, 209, 0, 237, 32, 252, 177, 91, 106, 203, 190, 57, 74, 76, 88, 207,
  208, 239, 170, 251, 67, 77, 51, 133, 69, 249, 2, 127, 80, 60, 159, 168, 81, 163, 64, 143, 146, 157, 56, 245, 188, 182, 218, 33, 16, 255, 243, 210,
  205, 12, 19, 236, 95, 151, 68, 23, 196, 167, 126, 61, 100, 93, 25, 115, 96, 129, 79, 220, 34, 42, 144, 136, 70, 238, 184, 20, 222, 94, 11, 219,
  224, 50, 58, 10, 73, 6, 36, 92, 194, 211, 172, 98, 145, 149, 228, 121, 231, 200, 55, 109, 141, 213, 78, 169, 108, 86, 244, 234, 101, 122, 174, 8,
  186, 120, 37, 46, 28, 166, 180, 198, 232, 221, 116, 31, 75, 189, 139, 138, 112, 62, 181, 102, 72, 3, 246, 14, 97, 53, 87, 185, 134, 193, 29, 158,
  225, 248, 152, 17, 105, 217, 142, 148, 155, 30, 135, 233, 206, 85, 40, 223, 140, 161, 137, 13, 191, 230, 66, 104, 65, 153, 45, 15, 176, 84, 187, 22]
/-- the bytes for which each is put -/
def btab : List Int := [82, 9, 106, 213, 48, 54, 165, 56, 191, 64, 163, 158, 129, 243, 215, 251, 124, 227, 57, 130, 155, 47, 255, 135, 52, 142, 67, 68, 196, 222, 233, 203,
  84, 123, 148, 50, 166, 194, 35, 61, 238, 76, 149, 11, 66, 250, 195, 78, 8, 46, 161, 102, 40, 217, 36, 178, 118, 91, 162, 73, 109, 139, 209, 37,
  114, 248, 246, 100, 134, 104, 152, 22, 212, 164, 92, 204, 93, 101, 182, 146, 108, 112, 72, 80, 253, 237, 185, 218, 94, 21, 70, 87, 167, 141, 157, 132,
  144, 216, 171, 0, 140, 188, 211, 10, 247, 228, 88, 5, 184, 179, 69, 6, 208, 44, 30, 143, 202, 63, 15, 2, 193, 175, 189, 3, 1, 19, 138, 107,
  58, 145, 17, 65, 79, 103, 220, 234, 151, 242, 207, 206, 240, 180, 230, 115, 150, 172, 116, 34, 231, 173, 53, 133, 226, 249, 55, 232, 28, 117, 223, 110,
  71, 241, 26, 113, 29, 41, 197, 137, 111, 183, 98, 14, 170, 24, 190, 27, 252, 86, 62, 75, 198, 210, 121, 32, 154, 219, 192, 254, 120, 205, 90, 244,
  31, 221, 168, 51, 136, 7, 199, 49, 177, 18, 16, 89, 39, 128, 236, 95, 96, 81, 127, 169, 25, 181, 74, 13, 45, 229, 122, 159, 147, 201, 156, 239,
  160, 224, 59, 77, 174, 42, 245, 176, 200, 235, 187, 60, 131, 83, 153, 97, 23, 43, 4, 126, 186, 119, 214, 38, 225, 105, 20, 99, 85, 33, 12, 125]
/-- the inverses -/
def ivl : List Nat := [0, 1, 141, 246, 203, 82, 123, 209, 232, 79, 41, 192, 176, 225, 229, 199, 116, 180, 170, 75, 153, 43, 96, 95, 88, 63, 253, 204, 255, 64, 238, 178,
  58, 110, 90, 241, 85, 77, 168, 201, 193, 10, 152, 21, 48, 68, 162, 194, 44, 69, 146, 108, 243, 57, 102, 66, 242, 53, 32, 111, 119, 187, 89, 25,
  29, 254, 55, 103, 45, 49, 245, 105, 167, 100, 171, 19, 84, 37, 233, 9, 237, 92, 5, 202, 76, 36, 135, 191, 24, 62, 34, 240, 81, 236, 97, 23,
  22, 94, 175, 211, 73, 166, 54, 67, 244, 71, 145, 223, 51, 147, 33, 59, 121, 183, 151, 133, 16, 181, 186, 60, 182, 112, 208, 6, 161, 250, 129, 130,
  131, 126, 127, 128, 150, 115, 190, 86, 155, 158, 149, 217, 247, 2, 185, 164, 222, 106, 50, 109, 216, 138, 132, 114, 42, 20, 159, 136, 249, 220, 137, 154,
  251, 124, 46, 195, 143, 184, 101, 72, 38, 200, 18, 74, 206, 231, 210, 98, 12, 224, 31, 239, 17, 117, 120, 113, 165, 142, 118, 61, 189, 188, 134, 87,
  11, 40, 47, 163, 218, 212, 228, 15, 169, 39, 83, 4, 27, 252, 172, 230, 122, 7, 174, 99, 197, 219, 226, 234, 148, 139, 196, 213, 157, 248, 144, 107,
  177, 13, 214, 235, 198, 14, 207, 173, 8, 78, 215, 227, 93, 80, 30, 179, 91, 35, 56, 52, 104, 70, 3, 140, 221, 156, 125, 160, 205, 26, 65, 28]
theorem ptab_len : ptab.length = 256 := by decide +kernel
theorem btab_len : btab.length = 256 := by decide +kernel
/-- what is put for a byte -/
def sb (a : Nat) : Nat := (gb ptab a).toNat
/-- the byte for which it is put -/
def sk (a : Nat) : Nat := (gb btab a).toNat
theorem ptab_all : ∀ a, a < 256 → gb ptab a = (sb a : Int) ∧ sb a < 256 := by decide +kernel
theorem btab_all : ∀ a, a < 256 → gb btab a = (sk a : Int) ∧ sk a < 256 := by decide +kernel
theorem gb_p (a : Nat) (h : a < 256) : gb ptab a = (sb a : Int) := (ptab_all a h).1
theorem gb_b (a : Nat) (h : a < 256) : gb btab a = (sk a : Int) := (btab_all a h).1
theorem sb_lt (a : Nat) (h : a < 256) : sb a < 256 := (ptab_all a h).2
theorem sk_lt (a : Nat) (h : a < 256) : sk a < 256 := (btab_all a h).2
theorem sk_sb : ∀ a, a < 256 → sk (sb a) = a := by decide +kernel
theorem sb_sk : ∀ a, a < 256 → sb (sk a) = a := by decide +kernel
theorem sb_ne : ∀ a, a < 256 → sb a ≠ a := by decide +kernel

theorem ivl_one : ∀ a, a < 256 → ivl.getD a 0 < 256 ∧ (a ≠ 0 → gm a (ivl.getD a 0) = 1) := by decide +kernel
theorem ivl_eq (a : Nat) (h : a < 256) : iv a = ivl.getD a 0 := by
  by_cases h0 : a = 0
  · subst h0; rw [iv_zero]; decide
  · exact (iv_only a _ h (ivl_one a h).1 ((ivl_one a h).2 h0)).symm
/-- a bit, the place modulo 8 -/
def b8 (n i : Nat) : Nat := hv n (i % 8) % 2
/-- bit i of what is put for the byte whose inverse is v -/
def sbt (v i : Nat) : Nat := b8 v i ^^^ b8 v (i + 4) ^^^ b8 v (i + 5) ^^^ b8 v (i + 6) ^^^ b8 v (i + 7) ^^^ b8 99 i
/-- the first k of them -/
def so (v : Nat) : Nat → Nat
  | 0 => 0
  | k + 1 => so v k + 2 ^ k * sbt v k
theorem so_ivl : ∀ a, a < 256 → so (ivl.getD a 0) 8 = sb a := by decide +kernel
theorem so_iv (a : Nat) (h : a < 256) : so (iv a) 8 = sb a := by rw [ivl_eq a h, so_ivl a h]
theorem b8_lt (n i : Nat) : b8 n i < 2 := Nat.mod_lt _ (by omega)
theorem xor2 (a b : Nat) (ha : a < 2) (hb : b < 2) : a ^^^ b < 2 := Nat.xor_lt_two_pow (n := 1) ha hb
theorem sbt_lt (v i : Nat) : sbt v i < 2 := xor2 _ _ (xor2 _ _ (xor2 _ _ (xor2 _ _ (xor2 _ _ (b8_lt _ _) (b8_lt _ _)) (b8_lt _ _)) (b8_lt _ _)) (b8_lt _ _)) (b8_lt _ _)
theorem so_lt (v k : Nat) : so v k < 2 ^ k := by
  induction k with
  | zero => simp [so]
  | succ k ih =>
    have h := sbt_lt v k
    have : 2 ^ k * sbt v k ≤ 2 ^ k * 1 := Nat.mul_le_mul_left _ (by omega)
    rw [so, Nat.pow_succ]; omega
end Go.Proofs.YtifepmdhbhdjpaaDoor

/- What sbox's tables, Sub, Back, Subs, Backs answer. No claim of its own. -/
namespace Go.Proofs.YtifepmdhbhdjpaaDoor
open Go.RowKit
set_option maxRecDepth 20000

/-- noughts -/
def z256 : List Int := List.replicate 256 0
theorem z256_len : z256.length = 256 := List.length_replicate
theorem z_arr256 : (Tryd.prog.info? 90).map (fun i => (i.zero, i.size)) = some (some (.agg (ints .u8 z256)), z256.length) := by kernel_rfl
theorem i_arr256 : (Tryd.prog.info? 90).map (·.size) = some 256 := by kernel_rfl

set_option maxRecDepth 100000 in
set_option maxHeartbeats 2000000 in
theorem puts_any (w : World) :
    Calls Tryd.prog 62 #[] w fun e w' => e = .returned (.agg (ints .u8 ptab)) ∧ Below w.heap.size w w' := by
  go_enter Tryd.func62, Tryd.ntmps62
  go_wp2_with (first
    | (refine new_lawF _ rfl 90 rfl .u8 z256 z_arr256 ?_; intro w1 A1 B1 s1)
    | (refine build_law _ rfl 90 _ rfl (.agg (ints .u8 ptab)) (by kernel_rfl) ?_)
    | (refine store_lawF _ rfl (.tmp 0) (.tmp 1) 90 rfl .u8 z256 ptab w.heap.size rfl rfl A1 256 i_arr256 z256_len ptab_len ?_; intro w2 A2 B2))
  refine bodyPost_ret (v := .agg (ints .u8 ptab)) (results_ar rfl _ _ w.heap.size 0 .u8 ptab rfl A2 256 5 Tryd.underlying90 i_arr256 ptab_len) rfl ⟨rfl, ?_⟩
  exact B1.trans B2

/-- an element of a table of 256 -/
theorem idx256 {ops : Array Oper} {rest : List Oper} {o : Oper} {a : Act} {Q : Exit → Act → World → Prop} (w : World) (hg : o.guard = none) (x y : Operand) (hop : o.op = Op.index 90 x y) (xs : List Int) (i : Nat) (hx : a.eval x = .agg (ints .u8 xs)) (hy : a.eval y = .int .u8 i) (hl : xs.length = 256) (hi : i < 256)
    (q : Int) (hq : q = gb xs i) (hK : wpList Tryd.prog ops Q rest (a.put o.dst (.int .u8 q)) w) : wpList Tryd.prog ops Q (o :: rest) a w := by
  subst hq
  refine wpList_plain hg fun K hK' => ?_
  have e : (ints .u8 xs)[i]? = some (.int .u8 (gb xs i)) := by simp [ints, gb, List.getD, show i < xs.length by omega]
  have hu := Tryd.underlying90
  have hu2 := Tryd.underlying5
  have hsz : (ints .u8 xs).size = 256 := by simp [ints, hl]
  have hr : (Instr.index 90 (.agg (ints .u8 xs)) (.int .u8 i)).run Tryd.prog w = .ok (.int .u8 (gb xs i)) w := by
    simp [Instr.index, asIntOf, run_underlying hu, run_underlying hu2, Go.part, isAgg, e]
    intro h; omega
  unfold Oper.wp execOp
  simp only [hop, hx, hy, Sem.run_bind, Sem.run_pure, Result.andThen_ok, hr]
  exact hK' _ _ hK

/-- what a table has for each byte -/
def looked (tab xs : List Int) : List Int := xs.map fun x => gb tab x.toNat
theorem looked_len (tab xs : List Int) : (looked tab xs).length = xs.length := by simp [looked]
theorem looked_gb (tab xs : List Int) (k : Nat) (hk : k < xs.length) : gb (looked tab xs) k = gb tab (gb xs k).toNat := by
  simp only [looked, gb, List.getD, List.getElem?_map, List.getElem?_eq_getElem hk, Option.map_some, Option.getD_some]
theorem looked_all (tab xs : List Int) (h : AllB tab) : AllB (looked tab xs) := allB_mem fun x hx => by
  obtain ⟨y, _, rfl⟩ := List.mem_map.1 hx
  exact h _
/-- zs, filled as far as place k -/
def filled (zs : List Int) (k : Nat) : List Int := zs.take k ++ List.replicate (zs.length - k) 0
theorem filled_zero (zs : List Int) : filled zs 0 = List.replicate zs.length 0 := by simp [filled]
theorem filled_end (zs : List Int) : filled zs zs.length = zs := by simp [filled]
theorem filled_set (zs : List Int) (k : Nat) (h : k < zs.length) : (filled zs k).set k (gb zs k) = filled zs (k + 1) := by
  unfold filled
  obtain ⟨d, hd⟩ : ∃ d, zs.length - k = d + 1 := ⟨zs.length - k - 1, by omega⟩
  have e : zs.length - (k + 1) = d := by omega
  have hm : min k zs.length = k := by omega
  rw [hd, e, List.set_append_right _ _ (by simp; omega), List.take_succ_eq_append_getElem h, List.append_assoc]
  simp only [List.length_take, hm, Nat.sub_self, List.replicate_succ, List.set_cons_zero, gb, List.getD, List.getElem?_eq_getElem h, Option.getD_some, List.cons_append, List.nil_append]

set_option maxRecDepth 20000 in
set_option maxHeartbeats 4000000 in
theorem look_any (v : Value) (xs tab : List Int) (w : World) (hv : Byt w v xs) (ht : tab.length = 256) (hta : AllB tab) (hmax : xs.length ≤ 1048576) :
    Calls Tryd.prog 61 #[v, .agg (ints .u8 tab)] w fun e w' => ∃ v', e = .returned v' ∧ Byt w' v' (looked tab xs) ∧ Below w.heap.size w w' := by
  obtain ⟨ao, ca, rfl, ha1, ha2, ha3, -, ha5⟩ := hv
  have HA5 : Hid (0 < xs.length → ∃ b off, ao = some ⟨b, off, none⟩ ∧ ∀ t, t < xs.length → w.cell? ⟨b, off + t, none⟩ = some (.int .u8 (gb xs t))) := ha5
  have HA : Hid (AllB xs) := ha3
  have HT : Hid (tab.length = 256) := ht
  have HTA : Hid (AllB tab) := hta
  have HG : Hid (∀ k, k < xs.length → gb (looked tab xs) k = gb tab (gb xs k).toNat) := fun k hk => looked_gb tab xs k hk
  have HZ : Hid ((looked tab xs).length = xs.length) := looked_len tab xs
  have HZA : Hid (AllB (looked tab xs)) := looked_all tab xs hta
  generalize looked tab xs = zs at *
  clear ha5 ha3 ht hta
  go_enter Tryd.func61, Tryd.ntmps61
  go_wp2_with (first
    | (refine box_lawF _ rfl (.tmp 1) 90 rfl .u8 tab rfl ?_; intro w1 A1 B1 s1; have HA1 : Hid (Ar w1 w.heap.size 0 .u8 tab) := A1; clear A1)
    | (at_make; refine make_law _ rfl (.tmp 9) (.tmp 9) rfl w1.heap.size (Nat.le_refl _) _ xs.length rfl rfl rfl (by omega) ?_; intro w2 hown hbel hlt))
  generalize hg1 : w1.heap.size = g1 at *
  go_loopw [13] (fun i wr => ∃ k : Nat, k ≤ xs.length ∧ i = .int .i64 k ∧ OwnN g1 wr g1 xs.length (filled zs k) ∧ Below g1 w1 wr) (fun i _ => xs.length - (intOf i).toNat)
  case atStart => exact ⟨0, Nat.zero_le _, rfl, by rw [filled_zero, HZ.out]; exact hown, hbel⟩
  case round =>
    clear hown hbel
    obtain ⟨k, hk, rfl, hown, hbel⟩ := hrel
    have BW : Below w.heap.size w wr := B1.trans (hbel.mono (by omega))
    by_cases hlt' : k < xs.length
    · obtain ⟨b, off, rfl, hca⟩ := HA5.out (by omega)
      have n1 := World.block_lt_of_cell? w _ (hca k hlt')
      have c1 : wr.cell? ⟨b, off + k, none⟩ = some (.int .u8 (gb xs k)) := (BW.cell n1).trans (hca k hlt')
      obtain ⟨x, hx⟩ : ∃ x : Nat, gb xs k = (x : Int) := ⟨(gb xs k).toNat, by have := HA.out k; omega⟩
      have hx8 : x < 256 := by have := HA.out k; omega
      rw [hx] at c1
      have c2 := (HA1.out.below hbel s1).cell0 x (by rw [HT.out]; exact hx8)
      have lk : (k : Int) < (xs.length : Int) := by omega
      have lk0 : (0 : Int) ≤ (k : Int) := by omega
      have x0 : (0 : Int) ≤ (x : Int) := by omega
      have x1 : (x : Int) < 256 := by omega
      have c3 := hown.cell hlt'
      have c4 := hown.free k
      have hgz : gb zs k = gb tab x := by rw [HG.out k hlt', hx, Int.toNat_natCast]
      have hown' : Hid (OwnN g1 (wr.setCell ⟨g1, k, none⟩ (.int .u8 (gb tab x))) g1 xs.length (filled zs (k + 1))) := by
        have h := hown.set k (gb zs k)
        rw [filled_set _ k (by rw [HZ.out]; exact hlt'), hgz] at h
        exact h
      have hb' : Hid (Below g1 w1 (wr.setCell ⟨g1, k, none⟩ (.int .u8 (gb tab x)))) := hbel.setCell (Nat.le_refl _) _
      clear hca hx hgz hx8
      generalize gb tab x = y at *
      go_wp2
      go_roundw
      case rel => exact ⟨k + 1, by omega, by go_num, hown'.out, hb'.out⟩
      case measure => simp [intOf]; omega
    · have hks : k = xs.length := by omega
      subst hks
      have hown2 : OwnN g1 wr g1 xs.length zs := by
        have := hown; rw [← HZ.out, filled_end, HZ.out] at this; exact this
      go_wp2
      go_ret
      exact ⟨_, rfl, hown2.byt HZA.out, BW⟩
end Go.Proofs.YtifepmdhbhdjpaaDoor

/- Columns of four bytes, mixed by four weights: as numbers. No claim of its own. -/
namespace Go.Proofs.YtifepmdhbhdjpaaDoor
open Go.RowKit
set_option maxRecDepth 20000

def gn (l : List Nat) (i : Nat) : Nat := l.getD i 0
/-- numbers, as whole numbers -/
def cI (l : List Nat) : List Int := l.map fun n : Nat => (n : Int)
theorem cI_len (l : List Nat) : (cI l).length = l.length := by simp [cI]
theorem gb_cI (l : List Nat) (i : Nat) : gb (cI l) i = (gn l i : Int) := by
  unfold gb cI gn
  by_cases h : i < l.length
  · simp [List.getD, h]
  · simp [List.getD, h]
/-- four bytes -/
def Col (l : List Nat) : Prop := l.length = 4 ∧ ∀ i, gn l i < 256

/-- a sum of four products -/
def tt (cs vs : List Nat) (i : Nat) : Nat := ((gm (gn vs 0) (gn cs i) ^^^ gm (gn vs 1) (gn cs ((i + 1) % 4))) ^^^ gm (gn vs 2) (gn cs ((i + 2) % 4))) ^^^ gm (gn vs 3) (gn cs ((i + 3) % 4))
/-- the first j of them -/
def acc (cs vs : List Nat) (i : Nat) : Nat → Nat
  | 0 => 0
  | j + 1 => acc cs vs i j ^^^ gm (gn vs j) (gn cs ((i + j) % 4))
theorem acc_four (cs vs : List Nat) (i : Nat) (h : i < 4) : acc cs vs i 4 = tt cs vs i := by
  simp only [acc, tt, Nat.zero_xor, Nat.add_zero, Nat.mod_eq_of_lt h]
theorem acc_lt (cs vs : List Nat) (hv : Col vs) (i j : Nat) : acc cs vs i j < 256 := by
  induction j with
  | zero => simp [acc]
  | succ j ih => exact xor_lt _ _ ih (gm_lt _ _ (hv.2 j))
theorem tt_lt (cs vs : List Nat) (hv : Col vs) (i : Nat) : tt cs vs i < 256 :=
  xor_lt _ _ (xor_lt _ _ (xor_lt _ _ (gm_lt _ _ (hv.2 0)) (gm_lt _ _ (hv.2 1))) (gm_lt _ _ (hv.2 2))) (gm_lt _ _ (hv.2 3))
def trn (cs vs : List Nat) : List Nat := [tt cs vs 0, tt cs vs 1, tt cs vs 2, tt cs vs 3]
theorem col4 (a b c d : Nat) (ha : a < 256) (hb : b < 256) (hc : c < 256) (hd : d < 256) : Col [a, b, c, d] := ⟨rfl, fun i => by
  match i with
  | 0 => exact ha
  | 1 => exact hb
  | 2 => exact hc
  | 3 => exact hd
  | _ + 4 => simp [gn]⟩
theorem trn_col (cs vs : List Nat) (hv : Col vs) : Col (trn cs vs) := col4 _ _ _ _ (tt_lt cs vs hv 0) (tt_lt cs vs hv 1) (tt_lt cs vs hv 2) (tt_lt cs vs hv 3)
/-- the sums as far as they are told -/
def prt (cs vs : List Nat) (i j : Nat) : List Int := (List.range 4).map fun t => ((if t < i then tt cs vs t else if t = i then acc cs vs i j else 0 : Nat) : Int)
theorem prt_len (cs vs : List Nat) (i j : Nat) : (prt cs vs i j).length = 4 := by simp [prt]
theorem gb_prt (cs vs : List Nat) (i j t : Nat) (ht : t < 4) : gb (prt cs vs i j) t = ((if t < i then tt cs vs t else if t = i then acc cs vs i j else 0 : Nat) : Int) := by
  simp [prt, gb, List.getD, ht]
def z4 : List Int := [0, 0, 0, 0]
theorem prt_zero (cs vs : List Nat) : prt cs vs 0 0 = z4 := ext_gb (by rw [prt_len]; rfl) fun t ht => by
  rw [prt_len] at ht
  rw [gb_prt _ _ _ _ _ ht]
  match t, ht with
  | 0, _ => rfl
  | 1, _ => rfl
  | 2, _ => rfl
  | 3, _ => rfl
theorem prt_at (cs vs : List Nat) (i j : Nat) (h : i < 4) : gb (prt cs vs i j) i = (acc cs vs i j : Int) := by
  rw [gb_prt _ _ _ _ _ h]; simp
theorem gb_set (xs : List Int) (i t : Nat) (x : Int) (h : t < xs.length) : gb (xs.set i x) t = if i = t then x else gb xs t := by
  by_cases e : i = t
  · subst e; simp [gb, List.getD, h]
  · simp [gb, List.getD, e]
theorem prt_set (cs vs : List Nat) (i j : Nat) : (prt cs vs i j).set i ((acc cs vs i (j + 1) : Nat) : Int) = prt cs vs i (j + 1) := ext_gb (by simp [prt]) fun t ht => by
  rw [List.length_set, prt_len] at ht
  rw [gb_set _ _ _ _ (by rw [prt_len]; exact ht), gb_prt _ _ _ _ _ ht, gb_prt _ _ _ _ _ ht]
  by_cases e : i = t
  · subst e; simp
  · rw [if_neg e]
    have : ¬ t = i := fun h => e h.symm
    simp [this]
theorem prt_row (cs vs : List Nat) (i : Nat) (h : i < 4) : prt cs vs i 4 = prt cs vs (i + 1) 0 := ext_gb (by simp [prt]) fun t ht => by
  rw [prt_len] at ht
  rw [gb_prt _ _ _ _ _ ht, gb_prt _ _ _ _ _ ht, acc_four cs vs i h]
  congr 1
  by_cases h1 : t < i
  · rw [if_pos h1, if_pos (by omega)]
  · rw [if_neg h1]
    by_cases h2 : t = i
    · subst h2; simp
    · rw [if_neg h2, if_neg (by omega)]; simp [acc]
theorem prt_end (cs vs : List Nat) : prt cs vs 4 0 = cI (trn cs vs) := rfl
theorem prt_put (cs vs : List Nat) (i : Nat) (h : i < 4) : (prt cs vs i 0).set i ((tt cs vs i : Nat) : Int) = prt cs vs (i + 1) 0 := by
  rw [← prt_row cs vs i h]
  refine ext_gb (by simp [prt]) fun t ht => ?_
  rw [List.length_set, prt_len] at ht
  rw [gb_set _ _ _ _ (by rw [prt_len]; exact ht), gb_prt _ _ _ _ _ ht, gb_prt _ _ _ _ _ ht, acc_four cs vs i h]
  by_cases e : i = t
  · subst e; simp
  · rw [if_neg e]
    have : ¬ t = i := fun h => e h.symm
    simp [this]

theorem dist_gm (a b x : Nat) : gm (a ^^^ b) x = gm a x ^^^ gm b x := gmf_xor 8 a b x
/-- one sum -/
def s4 (v0 v1 v2 v3 a b c d : Nat) : Nat := ((gm v0 a ^^^ gm v1 b) ^^^ gm v2 c) ^^^ gm v3 d
theorem sum_again (u0 u1 u2 u3 v0 v1 v2 v3 a b c d : Nat) (h0 : u0 < 256) (h1 : u1 < 256) (h2 : u2 < 256) (h3 : u3 < 256) (k0 : v0 < 256) (k1 : v1 < 256) (k2 : v2 < 256) (k3 : v3 < 256) :
    s4 u0 u1 u2 u3 (s4 v0 v1 v2 v3 a b c d) (s4 v0 v1 v2 v3 b c d a) (s4 v0 v1 v2 v3 c d a b) (s4 v0 v1 v2 v3 d a b c)
      = s4 (((gm u0 v0 ^^^ gm u1 v3) ^^^ gm u2 v2) ^^^ gm u3 v1) (((gm u0 v1 ^^^ gm u1 v0) ^^^ gm u2 v3) ^^^ gm u3 v2) (((gm u0 v2 ^^^ gm u1 v1) ^^^ gm u2 v0) ^^^ gm u3 v3) (((gm u0 v3 ^^^ gm u1 v2) ^^^ gm u2 v1) ^^^ gm u3 v0) a b c d := by
  simp only [s4, gm_dist, dist_gm]
  rw [gm_assoc u0 v0 a h0 k0, gm_assoc u0 v1 b h0 k1, gm_assoc u0 v2 c h0 k2, gm_assoc u0 v3 d h0 k3,
    gm_assoc u1 v3 a h1 k3, gm_assoc u1 v0 b h1 k0, gm_assoc u1 v1 c h1 k1, gm_assoc u1 v2 d h1 k2,
    gm_assoc u2 v2 a h2 k2, gm_assoc u2 v3 b h2 k3, gm_assoc u2 v0 c h2 k0, gm_assoc u2 v1 d h2 k1,
    gm_assoc u3 v1 a h3 k1, gm_assoc u3 v2 b h3 k2, gm_assoc u3 v3 c h3 k3, gm_assoc u3 v0 d h3 k0]
  ac_rfl
theorem s4_one (a b c d : Nat) (ha : a < 256) : s4 1 0 0 0 a b c d = a := by simp [s4, zero_gm, one_gm a ha]
theorem trn_eq (a b c d v0 v1 v2 v3 : Nat) : trn [a, b, c, d] [v0, v1, v2, v3] = [s4 v0 v1 v2 v3 a b c d, s4 v0 v1 v2 v3 b c d a, s4 v0 v1 v2 v3 c d a b, s4 v0 v1 v2 v3 d a b c] := rfl
theorem back_by (a b c d : Nat) (u0 u1 u2 u3 v0 v1 v2 v3 : Nat) (h0 : u0 < 256) (h1 : u1 < 256) (h2 : u2 < 256) (h3 : u3 < 256) (k0 : v0 < 256) (k1 : v1 < 256) (k2 : v2 < 256) (k3 : v3 < 256)
    (e0 : ((gm u0 v0 ^^^ gm u1 v3) ^^^ gm u2 v2) ^^^ gm u3 v1 = 1) (e1 : ((gm u0 v1 ^^^ gm u1 v0) ^^^ gm u2 v3) ^^^ gm u3 v2 = 0) (e2 : ((gm u0 v2 ^^^ gm u1 v1) ^^^ gm u2 v0) ^^^ gm u3 v3 = 0) (e3 : ((gm u0 v3 ^^^ gm u1 v2) ^^^ gm u2 v1) ^^^ gm u3 v0 = 0)
    (ha : a < 256) (hb : b < 256) (hc : c < 256) (hd : d < 256) : trn (trn [a, b, c, d] [v0, v1, v2, v3]) [u0, u1, u2, u3] = [a, b, c, d] := by
  rw [trn_eq, trn_eq]
  rw [sum_again u0 u1 u2 u3 v0 v1 v2 v3 a b c d h0 h1 h2 h3 k0 k1 k2 k3, sum_again u0 u1 u2 u3 v0 v1 v2 v3 b c d a h0 h1 h2 h3 k0 k1 k2 k3,
    sum_again u0 u1 u2 u3 v0 v1 v2 v3 c d a b h0 h1 h2 h3 k0 k1 k2 k3, sum_again u0 u1 u2 u3 v0 v1 v2 v3 d a b c h0 h1 h2 h3 k0 k1 k2 k3]
  rw [e0, e1, e2, e3, s4_one _ _ _ _ ha, s4_one _ _ _ _ hb, s4_one _ _ _ _ hc, s4_one _ _ _ _ hd]
def mixW : List Nat := [2, 3, 1, 1]
def unmW : List Nat := [14, 11, 13, 9]
theorem four_of (l : List Nat) (h : Col l) : ∃ a b c d, l = [a, b, c, d] ∧ a < 256 ∧ b < 256 ∧ c < 256 ∧ d < 256 := by
  obtain ⟨hl, hb⟩ := h
  match l, hl with
  | [a, b, c, d], _ => exact ⟨a, b, c, d, rfl, hb 0, hb 1, hb 2, hb 3⟩
theorem unmix_mix (l : List Nat) (h : Col l) : trn (trn l mixW) unmW = l := by
  obtain ⟨a, b, c, d, rfl, ha, hb, hc, hd⟩ := four_of l h
  exact back_by a b c d 14 11 13 9 2 3 1 1 (by omega) (by omega) (by omega) (by omega) (by omega) (by omega) (by omega) (by omega) (by decide +kernel) (by decide +kernel) (by decide +kernel) (by decide +kernel) ha hb hc hd
theorem mix_unmix (l : List Nat) (h : Col l) : trn (trn l unmW) mixW = l := by
  obtain ⟨a, b, c, d, rfl, ha, hb, hc, hd⟩ := four_of l h
  exact back_by a b c d 2 3 1 1 14 11 13 9 (by omega) (by omega) (by omega) (by omega) (by omega) (by omega) (by omega) (by omega) (by decide +kernel) (by decide +kernel) (by decide +kernel) (by decide +kernel) ha hb hc hd
theorem mixW_col : Col mixW := col4 _ _ _ _ (by omega) (by omega) (by omega) (by omega)
theorem unmW_col : Col unmW := col4 _ _ _ _ (by omega) (by omega) (by omega) (by omega)
end Go.Proofs.YtifepmdhbhdjpaaDoor

/- AES with keys of 32 bytes, on lists of bytes: a key's words, rounds, encrypting and decrypting; that each undoes the other. No claim of its own. -/
namespace Go.Proofs.YtifepmdhbhdjpaaDoor
open Go.RowKit
set_option maxRecDepth 20000

/-- sixteen bytes -/
def Blk (b : List Int) : Prop := b.length = 16 ∧ AllB b
theorem range_gb (f : Nat → Int) (n t : Nat) (h : t < n) : gb ((List.range n).map f) t = f t := by simp [gb, List.getD, h]

/-! ### rows shifted -/
def shi (i by_ : Nat) : Nat := 4 * ((i / 4 + by_ * (i % 4)) % 4) + i % 4
def shl16 (b : List Int) (by_ : Nat) : List Int := (List.range 16).map fun i => gb b (shi i by_)
theorem shl16_len (b : List Int) (n : Nat) : (shl16 b n).length = 16 := by simp [shl16]
theorem shl16_gb (b : List Int) (n t : Nat) (h : t < 16) : gb (shl16 b n) t = gb b (shi t n) := range_gb _ _ _ h
theorem shl16_all (b : List Int) (n : Nat) (h : AllB b) : AllB (shl16 b n) := allB_mem fun x hx => by
  obtain ⟨i, _, rfl⟩ := List.mem_map.1 hx
  exact h _
theorem shl16_blk (b : List Int) (n : Nat) (h : Blk b) : Blk (shl16 b n) := ⟨shl16_len b n, shl16_all b n h.2⟩
theorem shi_lt (i n : Nat) : shi i n < 16 := by unfold shi; omega
theorem shi_31 : ∀ i, i < 16 → shi (shi i 3) 1 = i := by decide
theorem shi_13 : ∀ i, i < 16 → shi (shi i 1) 3 = i := by decide
theorem shl_31 (b : List Int) (h : b.length = 16) : shl16 (shl16 b 1) 3 = b := ext_gb (by rw [shl16_len, h]) fun t ht => by
  rw [shl16_len] at ht
  rw [shl16_gb _ _ _ ht, shl16_gb _ _ _ (shi_lt t 3), shi_31 t ht]
theorem shl_13 (b : List Int) (h : b.length = 16) : shl16 (shl16 b 3) 1 = b := ext_gb (by rw [shl16_len, h]) fun t ht => by
  rw [shl16_len] at ht
  rw [shl16_gb _ _ _ ht, shl16_gb _ _ _ (shi_lt t 1), shi_13 t ht]

/-! ### bytes put for -/
theorem tab_allB {tab : List Int} (h : tab.all (fun x => decide (0 ≤ x ∧ x ≤ 255)) = true) : AllB tab := allB_mem fun x hx => by
  simpa using List.all_eq_true.1 h x hx
theorem pAll : AllB ptab := tab_allB (by decide +kernel)
theorem bAll : AllB btab := tab_allB (by decide +kernel)
theorem looked_blk (tab b : List Int) (ht : AllB tab) (h : b.length = 16) : Blk (looked tab b) := ⟨by rw [looked_len, h], looked_all tab b ht⟩
theorem looked_bp (b : List Int) (h : AllB b) : looked btab (looked ptab b) = b := ext_gb (by rw [looked_len, looked_len]) fun t ht => by
  rw [looked_len, looked_len] at ht
  rw [looked_gb _ _ _ (by rw [looked_len]; exact ht), looked_gb _ _ _ ht]
  have hb := h t
  have h8 : (gb b t).toNat < 256 := by omega
  rw [gb_p _ h8, Int.toNat_natCast, gb_b _ (sb_lt _ h8), sk_sb _ h8]
  omega
theorem looked_pb (b : List Int) (h : AllB b) : looked ptab (looked btab b) = b := ext_gb (by rw [looked_len, looked_len]) fun t ht => by
  rw [looked_len, looked_len] at ht
  rw [looked_gb _ _ _ (by rw [looked_len]; exact ht), looked_gb _ _ _ ht]
  have hb := h t
  have h8 : (gb b t).toNat < 256 := by omega
  rw [gb_b _ h8, Int.toNat_natCast, gb_p _ (sk_lt _ h8), sb_sk _ h8]
  omega

/-! ### columns mixed -/
def colOf (b : List Int) (c : Nat) : List Nat := [(gb b (4 * c)).toNat, (gb b (4 * c + 1)).toNat, (gb b (4 * c + 2)).toNat, (gb b (4 * c + 3)).toNat]
theorem colOf_col (b : List Int) (c : Nat) (h : AllB b) : Col (colOf b c) := by
  have h0 := h (4 * c)
  have h1 := h (4 * c + 1)
  have h2 := h (4 * c + 2)
  have h3 := h (4 * c + 3)
  exact col4 _ _ _ _ (by omega) (by omega) (by omega) (by omega)
theorem colOf_gn (b : List Int) (c i : Nat) (h : i < 4) : gn (colOf b c) i = (gb b (4 * c + i)).toNat := by
  match i, h with
  | 0, _ => rfl
  | 1, _ => rfl
  | 2, _ => rfl
  | 3, _ => rfl
def mixb (b : List Int) (ws : List Nat) : List Int := (List.range 16).map fun i => (gn (trn (colOf b (i / 4)) ws) (i % 4) : Int)
theorem mixb_len (b : List Int) (ws : List Nat) : (mixb b ws).length = 16 := by simp [mixb]
theorem mixb_gb (b : List Int) (ws : List Nat) (t : Nat) (h : t < 16) : gb (mixb b ws) t = (gn (trn (colOf b (t / 4)) ws) (t % 4) : Int) := range_gb _ _ _ h
theorem mixb_blk (b : List Int) (ws : List Nat) (hw : Col ws) : Blk (mixb b ws) := ⟨mixb_len b ws, allB_mem fun x hx => by
  obtain ⟨i, _, rfl⟩ := List.mem_map.1 hx
  have := (trn_col (colOf b (i / 4)) ws hw).2 (i % 4)
  omega⟩
theorem colOf_mixb (b : List Int) (ws : List Nat) (c : Nat) (h : c < 4) : colOf (mixb b ws) c = trn (colOf b c) ws := by
  have e : ∀ i, i < 4 → (gb (mixb b ws) (4 * c + i)).toNat = gn (trn (colOf b c) ws) i := fun i hi => by
    rw [mixb_gb b ws _ (by omega), show (4 * c + i) / 4 = c by omega, show (4 * c + i) % 4 = i by omega, Int.toNat_natCast]
  have e0 := e 0 (by omega)
  have e1 := e 1 (by omega)
  have e2 := e 2 (by omega)
  have e3 := e 3 (by omega)
  rw [Nat.add_zero] at e0
  unfold colOf at *
  rw [e0, e1, e2, e3]
  rfl
theorem mixb_back (b : List Int) (us vs : List Nat) (h : Blk b) (hb : ∀ l, Col l → trn (trn l us) vs = l) : mixb (mixb b us) vs = b := ext_gb (by rw [mixb_len, h.1]) fun t ht => by
  rw [mixb_len] at ht
  rw [mixb_gb _ _ _ ht, colOf_mixb b us _ (by omega), hb _ (colOf_col b _ h.2), colOf_gn b _ _ (by omega), show 4 * (t / 4) + t % 4 = t by omega]
  have := h.2 t
  omega
theorem mixb_um (b : List Int) (h : Blk b) : mixb (mixb b mixW) unmW = b := mixb_back b mixW unmW h unmix_mix
theorem mixb_mu (b : List Int) (h : Blk b) : mixb (mixb b unmW) mixW = b := mixb_back b unmW mixW h mix_unmix

/-! ### a key's words -/
/-- four bytes -/
def Wd (x : List Int) : Prop := x.length = 4 ∧ AllB x
def cut4 (key : List Int) (i : Nat) : List Int := (key.take (4 * i + 4)).drop (4 * i)
/-- what is xored to the word eight ahead -/
def mid (i : Nat) (x : List Int) : List Int :=
  if i % 8 = 0 then [xr (gb ptab (gb x 1).toNat) (pw 2 (i / 8 - 1) : Int), gb ptab (gb x 2).toNat, gb ptab (gb x 3).toNat, gb ptab (gb x 0).toNat]
  else if i % 8 = 4 then [gb ptab (gb x 0).toNat, gb ptab (gb x 1).toNat, gb ptab (gb x 2).toNat, gb ptab (gb x 3).toNat] else x
/-- the next word -/
def nxt (key : List Int) (ws : List (List Int)) (i : Nat) : List Int := if i < 8 then cut4 key i else xorl (ws.getD (i - 8) []) (mid i (ws.getD (i - 1) []))
/-- the first n words -/
def wds (key : List Int) : Nat → List (List Int)
  | 0 => []
  | n + 1 => wds key n ++ [nxt key (wds key n) n]
theorem wds_len (key : List Int) (n : Nat) : (wds key n).length = n := by
  induction n with
  | zero => rfl
  | succ n ih => simp [wds, ih]
/-- word i -/
def wd (key : List Int) (i : Nat) : List Int := nxt key (wds key i) i
theorem wds_get (key : List Int) (n i : Nat) (h : i < n) : (wds key n).getD i [] = wd key i := by
  induction n with
  | zero => omega
  | succ n ih =>
    rw [wds, List.getD_eq_getElem?_getD]
    by_cases h' : i < n
    · rw [List.getElem?_append_left (by rw [wds_len]; exact h'), ← List.getD_eq_getElem?_getD, ih h']
    · have : i = n := by omega
      subst this
      rw [List.getElem?_append_right (by rw [wds_len]; omega), wds_len]
      simp [wd]
theorem wd_eq (key : List Int) (i : Nat) : wd key i = if i < 8 then cut4 key i else xorl (wd key (i - 8)) (mid i (wd key (i - 1))) := by
  rw [wd, nxt]
  by_cases h : i < 8
  · rw [if_pos h, if_pos h]
  · rw [if_neg h, if_neg h, wds_get key i (i - 8) (by omega), wds_get key i (i - 1) (by omega)]
theorem wd4 (a b c d : Int) (ha : 0 ≤ a ∧ a ≤ 255) (hb : 0 ≤ b ∧ b ≤ 255) (hc : 0 ≤ c ∧ c ≤ 255) (hd : 0 ≤ d ∧ d ≤ 255) : Wd [a, b, c, d] := ⟨rfl, allB_mem fun x hx => by
  simp at hx
  rcases hx with rfl | rfl | rfl | rfl <;> assumption⟩
theorem mid_wd (i : Nat) (x : List Int) (h : Wd x) : Wd (mid i x) := by
  have hp : ∀ j, 0 ≤ gb ptab j ∧ gb ptab j ≤ 255 := pAll
  unfold mid
  by_cases h0 : i % 8 = 0
  · rw [if_pos h0]
    have := pw_lt 2 (i / 8 - 1)
    exact wd4 _ _ _ _ (xr_bd _ _ (hp _) (by omega)) (hp _) (hp _) (hp _)
  · rw [if_neg h0]
    by_cases h4 : i % 8 = 4
    · rw [if_pos h4]; exact wd4 _ _ _ _ (hp _) (hp _) (hp _) (hp _)
    · rw [if_neg h4]; exact h
theorem cut4_gb (key : List Int) (i t : Nat) (h : t < 4) : gb (cut4 key i) t = gb key (4 * i + t) := gb_cut key (4 * i) (4 * i + 4) t (by omega)
theorem cut4_wd (key : List Int) (i : Nat) (hk : AllB key) (h : 4 * i + 4 ≤ key.length) : Wd (cut4 key i) := ⟨by simp [cut4]; omega, allB_mem fun x hx => by
  obtain ⟨j, hj, rfl⟩ := mem_gb (List.mem_of_mem_take (List.mem_of_mem_drop hx))
  exact hk j⟩
theorem xorl_wd (x y : List Int) (hx : Wd x) (hy : Wd y) : Wd (xorl x y) := ⟨by rw [xorl_len _ _ (by rw [hx.1, hy.1]), hx.1], xorl_all _ _ (by rw [hx.1, hy.1]) hx.2 hy.2⟩
theorem wd_wd (key : List Int) (hk : key.length = 32) (ha : AllB key) (i : Nat) : Wd (wd key i) := by
  induction i using Nat.strongRecOn with
  | ind i ih =>
    rw [wd_eq]
    by_cases h : i < 8
    · rw [if_pos h]; exact cut4_wd key i ha (by omega)
    · rw [if_neg h]; exact xorl_wd _ _ (ih _ (by omega)) (mid_wd i _ (ih _ (by omega)))
/-- a round's key -/
def rk (key : List Int) (r : Nat) : List Int := wd key (4 * r) ++ wd key (4 * r + 1) ++ wd key (4 * r + 2) ++ wd key (4 * r + 3)
theorem rk_blk (key : List Int) (hk : key.length = 32) (ha : AllB key) (r : Nat) : Blk (rk key r) := by
  have h0 := wd_wd key hk ha (4 * r)
  have h1 := wd_wd key hk ha (4 * r + 1)
  have h2 := wd_wd key hk ha (4 * r + 2)
  have h3 := wd_wd key hk ha (4 * r + 3)
  refine ⟨by simp [rk, h0.1, h1.1, h2.1, h3.1], allB_mem fun x hx => ?_⟩
  simp only [rk, List.mem_append] at hx
  rcases hx with ((hx | hx) | hx) | hx
  · obtain ⟨j, _, rfl⟩ := mem_gb hx; exact h0.2 j
  · obtain ⟨j, _, rfl⟩ := mem_gb hx; exact h1.2 j
  · obtain ⟨j, _, rfl⟩ := mem_gb hx; exact h2.2 j
  · obtain ⟨j, _, rfl⟩ := mem_gb hx; exact h3.2 j

/-! ### rounds -/
theorem xorl_blk (x y : List Int) (hx : Blk x) (hy : Blk y) : Blk (xorl x y) := ⟨by rw [xorl_len _ _ (by rw [hx.1, hy.1]), hx.1], xorl_all _ _ (by rw [hx.1, hy.1]) hx.2 hy.2⟩
theorem xorl_bb (x y : List Int) (hx : Blk x) (hy : Blk y) : xorl (xorl x y) y = x := xorl_back x y (by rw [hx.1, hy.1]) hx.2
/-- mixing, in all rounds but the last -/
def mx (r : Nat) (b : List Int) : List Int := if r < 14 then mixb b mixW else b
def um (r : Nat) (b : List Int) : List Int := if r < 14 then mixb b unmW else b
theorem mx_blk (r : Nat) (b : List Int) (h : Blk b) : Blk (mx r b) := by unfold mx; split; exact mixb_blk _ _ mixW_col; exact h
theorem um_blk (r : Nat) (b : List Int) (h : Blk b) : Blk (um r b) := by unfold um; split; exact mixb_blk _ _ unmW_col; exact h
theorem um_mx (r : Nat) (b : List Int) (h : Blk b) : um r (mx r b) = b := by
  unfold um mx
  by_cases hr : r < 14
  · rw [if_pos hr, if_pos hr, mixb_um b h]
  · rw [if_neg hr, if_neg hr]
theorem mx_um (r : Nat) (b : List Int) (h : Blk b) : mx r (um r b) = b := by
  unfold um mx
  by_cases hr : r < 14
  · rw [if_pos hr, if_pos hr, mixb_mu b h]
  · rw [if_neg hr, if_neg hr]
/-- one round -/
def fw (key : List Int) (r : Nat) (b : List Int) : List Int := xorl (mx r (shl16 (looked ptab b) 1)) (rk key r)
def bw (key : List Int) (r : Nat) (b : List Int) : List Int := looked btab (shl16 (um r (xorl b (rk key r))) 3)
theorem bw_blk (key : List Int) (r : Nat) (b : List Int) : Blk (bw key r b) := looked_blk _ _ bAll (shl16_len _ _)
theorem fw_blk (key : List Int) (hk : key.length = 32) (ha : AllB key) (r : Nat) (b : List Int) (h : Blk b) : Blk (fw key r b) := xorl_blk _ _ (mx_blk r _ (shl16_blk _ _ (looked_blk _ _ pAll h.1))) (rk_blk key hk ha r)
theorem bw_fw (key : List Int) (hk : key.length = 32) (ha : AllB key) (r : Nat) (b : List Int) (h : Blk b) : bw key r (fw key r b) = b := by
  have h1 := looked_blk ptab b pAll h.1
  have h2 := shl16_blk _ 1 h1
  unfold bw fw
  rw [xorl_bb _ _ (mx_blk r _ h2) (rk_blk key hk ha r), um_mx r _ h2, shl_31 _ h1.1, looked_bp b h.2]
theorem fw_bw (key : List Int) (hk : key.length = 32) (ha : AllB key) (r : Nat) (b : List Int) (h : Blk b) : fw key r (bw key r b) = b := by
  have h1 := xorl_blk b _ h (rk_blk key hk ha r)
  have h2 := um_blk r _ h1
  have h3 := shl16_blk _ 3 h2
  unfold bw fw
  rw [looked_pb _ h3.2, shl_13 _ h2.1, mx_um r _ h1, xorl_bb _ _ h (rk_blk key hk ha r)]
/-- encrypting, behind r rounds -/
def enc (key b : List Int) : Nat → List Int
  | 0 => xorl b (rk key 0)
  | r + 1 => fw key (r + 1) (enc key b r)
/-- decrypting, behind k rounds -/
def dec (key b : List Int) : Nat → List Int
  | 0 => b
  | k + 1 => bw key (14 - k) (dec key b k)
def encr (key b : List Int) : List Int := enc key b 14
def decr (key b : List Int) : List Int := xorl (dec key b 14) (rk key 0)
theorem dec_blk (key b : List Int) (h : Blk b) (k : Nat) : Blk (dec key b k) := by
  cases k with
  | zero => exact h
  | succ k => exact bw_blk key _ _
theorem enc_blk (key : List Int) (hk : key.length = 32) (ha : AllB key) (b : List Int) (h : Blk b) (r : Nat) : Blk (enc key b r) := by
  induction r with
  | zero => exact xorl_blk _ _ h (rk_blk key hk ha 0)
  | succ r ih => exact fw_blk key hk ha _ _ ih
theorem encr_blk (key : List Int) (hk : key.length = 32) (ha : AllB key) (b : List Int) (h : Blk b) : Blk (encr key b) := enc_blk key hk ha b h 14
theorem decr_blk (key : List Int) (hk : key.length = 32) (ha : AllB key) (b : List Int) (h : Blk b) : Blk (decr key b) := xorl_blk _ _ (dec_blk key b h 14) (rk_blk key hk ha 0)
theorem dec_enc (key : List Int) (hk : key.length = 32) (ha : AllB key) (b : List Int) (h : Blk b) (k : Nat) (hk14 : k ≤ 14) : dec key (encr key b) k = enc key b (14 - k) := by
  induction k with
  | zero => rfl
  | succ k ih =>
    rw [dec, ih (by omega), show 14 - k = (14 - (k + 1)) + 1 by omega, enc, bw_fw key hk ha _ _ (enc_blk key hk ha b h _)]
theorem decr_encr (key : List Int) (hk : key.length = 32) (ha : AllB key) (b : List Int) (h : Blk b) : decr key (encr key b) = b := by
  unfold decr
  rw [dec_enc key hk ha b h 14 (by omega)]
  exact xorl_bb _ _ h (rk_blk key hk ha 0)
theorem enc_dec (key : List Int) (hk : key.length = 32) (ha : AllB key) (b : List Int) (h : Blk b) (r : Nat) (hr : r ≤ 14) : enc key (decr key b) r = dec key b (14 - r) := by
  induction r with
  | zero =>
    rw [enc, decr]
    exact xorl_bb _ _ (dec_blk key b h 14) (rk_blk key hk ha 0)
  | succ r ih =>
    have e := ih (by omega)
    rw [show 14 - r = (14 - (r + 1)) + 1 by omega, dec, show 14 - (14 - (r + 1)) = r + 1 by omega] at e
    rw [enc, e, fw_bw key hk ha _ _ (dec_blk key b h _)]
theorem encr_decr (key : List Int) (hk : key.length = 32) (ha : AllB key) (b : List Int) (h : Blk b) : encr key (decr key b) = b := enc_dec key hk ha b h 14 (by omega)
end Go.Proofs.YtifepmdhbhdjpaaDoor

