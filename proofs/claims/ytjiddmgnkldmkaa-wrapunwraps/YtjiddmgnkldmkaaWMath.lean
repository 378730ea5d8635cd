/- Wrapping on lists of bytes: a step, its undoing, all steps, each undoes the other. No claim of its own. -/
import Derived.Test.YtjiddmgnkldmkaaAMath
import Derived.Test.YtjiddmgnkldmkaaNumbers
namespace Go.Proofs.Ytjiddmgnkldmkaa.wr
open Go.RowKit

/-- a number as eight bytes, big endian -/
def b8 (t : Nat) : List Int := (le (t : Int) 8).reverse
theorem b8_len (t : Nat) : (b8 t).length = 8 := by simp [b8, le_len]
theorem b8_all (t : Nat) : AllB (b8 t) := allB_reverse (le_all _ _)
/-- the first eight bytes, the part at i, and both put anew -/
def hd (s : List Int) : List Int := s.take 8
def pt (s : List Int) (i : Nat) : List Int := (s.take (i + 8)).drop i
def put (s : List Int) (i : Nat) (a r : List Int) : List Int := a ++ (s.take i).drop 8 ++ r ++ s.drop (i + 8)

theorem allB_app {xs ys : List Int} (hx : AllB xs) (hy : AllB ys) : AllB (xs ++ ys) := allB_mem fun x h => by
  rcases List.mem_append.1 h with h | h
  · obtain ⟨i, _, rfl⟩ := mem_gb h; exact hx i
  · obtain ⟨i, _, rfl⟩ := mem_gb h; exact hy i
theorem allB_sub {xs ys : List Int} (hx : AllB xs) (h : ∀ y ∈ ys, y ∈ xs) : AllB ys := allB_mem fun y hy => by
  obtain ⟨i, _, rfl⟩ := mem_gb (h y hy); exact hx i
theorem allB_tk {xs : List Int} (hx : AllB xs) (k : Nat) : AllB (xs.take k) := allB_sub hx fun _ h => List.mem_of_mem_take h
theorem allB_dr {xs : List Int} (hx : AllB xs) (k : Nat) : AllB (xs.drop k) := allB_sub hx fun _ h => List.mem_of_mem_drop h

theorem hd_len (s : List Int) (h : 8 ≤ s.length) : (hd s).length = 8 := by simp [hd]; omega
theorem pt_len (s : List Int) (i : Nat) (h : i + 8 ≤ s.length) : (pt s i).length = 8 := by simp [pt]; omega
theorem hd_all (s : List Int) (h : AllB s) : AllB (hd s) := allB_tk h 8
theorem pt_all (s : List Int) (i : Nat) (h : AllB s) : AllB (pt s i) := allB_dr (allB_tk h _) _
theorem put_len (s : List Int) (i : Nat) (a r : List Int) (ha : a.length = 8) (hr : r.length = 8) (h8 : 8 ≤ i) (hi : i + 8 ≤ s.length) : (put s i a r).length = s.length := by
  simp [put, ha, hr]; omega
theorem put_all (s : List Int) (i : Nat) (a r : List Int) (hs : AllB s) (ha : AllB a) (hr : AllB r) : AllB (put s i a r) :=
  allB_app (allB_app (allB_app ha (allB_dr (allB_tk hs _) _)) hr) (allB_dr hs _)
theorem hd_put (s : List Int) (i : Nat) (a r : List Int) (ha : a.length = 8) : hd (put s i a r) = a := by
  unfold hd put
  rw [List.append_assoc, List.append_assoc, List.take_append_of_le_length (by omega), List.take_of_length_le (by omega)]
theorem mid_len (s : List Int) (i : Nat) (hi : i + 8 ≤ s.length) : ((s.take i).drop 8).length = i - 8 := by simp; omega
theorem front_len (s : List Int) (i : Nat) (a : List Int) (ha : a.length = 8) (h8 : 8 ≤ i) (hi : i + 8 ≤ s.length) : (a ++ (s.take i).drop 8).length = i := by
  rw [List.length_append, mid_len s i hi]; omega
theorem take_put (s : List Int) (i : Nat) (a r : List Int) (ha : a.length = 8) (h8 : 8 ≤ i) (hi : i + 8 ≤ s.length) : (put s i a r).take i = a ++ (s.take i).drop 8 := by
  have hl := front_len s i a ha h8 hi
  unfold put
  rw [List.append_assoc, List.take_append_of_le_length (by omega), List.take_of_length_le (by omega)]
theorem take_put8 (s : List Int) (i : Nat) (a r : List Int) (ha : a.length = 8) (hr : r.length = 8) (h8 : 8 ≤ i) (hi : i + 8 ≤ s.length) : (put s i a r).take (i + 8) = a ++ (s.take i).drop 8 ++ r := by
  have hl := front_len s i a ha h8 hi
  have hl2 : (a ++ (s.take i).drop 8 ++ r).length = i + 8 := by rw [List.length_append, hl, hr]
  unfold put
  rw [List.take_append_of_le_length (by omega), List.take_of_length_le (by omega)]
theorem drop_put8 (s : List Int) (i : Nat) (a r : List Int) (ha : a.length = 8) (hr : r.length = 8) (h8 : 8 ≤ i) (hi : i + 8 ≤ s.length) : (put s i a r).drop (i + 8) = s.drop (i + 8) := by
  have hl := front_len s i a ha h8 hi
  have hl2 : (a ++ (s.take i).drop 8 ++ r).length = i + 8 := by rw [List.length_append, hl, hr]
  unfold put
  rw [List.drop_append_of_le_length (by omega), List.drop_eq_nil_of_le (by omega), List.nil_append]
theorem pt_put (s : List Int) (i : Nat) (a r : List Int) (ha : a.length = 8) (hr : r.length = 8) (h8 : 8 ≤ i) (hi : i + 8 ≤ s.length) : pt (put s i a r) i = r := by
  have hl := front_len s i a ha h8 hi
  unfold pt
  rw [take_put8 s i a r ha hr h8 hi, List.drop_append_of_le_length (by omega), List.drop_eq_nil_of_le (by omega), List.nil_append]
theorem put_put (s : List Int) (i : Nat) (a r a' r' : List Int) (ha : a.length = 8) (hr : r.length = 8) (h8 : 8 ≤ i) (hi : i + 8 ≤ s.length) : put (put s i a r) i a' r' = put s i a' r' := by
  have e : ((put s i a r).take i).drop 8 = (s.take i).drop 8 := by
    rw [take_put s i a r ha h8 hi, List.drop_append_of_le_length (by omega), List.drop_eq_nil_of_le (by omega), List.nil_append]
  show a' ++ ((put s i a r).take i).drop 8 ++ r' ++ (put s i a r).drop (i + 8) = _
  rw [e, drop_put8 s i a r ha hr h8 hi]
  rfl
theorem put_same (s : List Int) (i : Nat) (h8 : 8 ≤ i) : put s i (hd s) (pt s i) = s := by
  have e1 : hd s ++ (s.take i).drop 8 = s.take i := by
    have h := List.take_append_drop 8 (s.take i)
    rwa [List.take_take, show min 8 i = 8 by omega] at h
  have e2 : s.take i ++ pt s i = s.take (i + 8) := by
    have h := List.take_append_drop i (s.take (i + 8))
    rwa [List.take_take, show min i (i + 8) = i by omega] at h
  unfold put
  rw [e1, e2, List.take_append_drop]

/-- one step, and its undoing -/
def fw (key : List Int) (t i : Nat) (s : List Int) : List Int :=
  put s i (xorl ((encr key (hd s ++ pt s i)).take 8) (b8 t)) ((encr key (hd s ++ pt s i)).drop 8)
def bk (key : List Int) (t i : Nat) (s : List Int) : List Int :=
  put s i ((decr key (xorl (hd s) (b8 t) ++ pt s i)).take 8) ((decr key (xorl (hd s) (b8 t) ++ pt s i)).drop 8)
theorem two_blk (a r : List Int) (ha : a.length = 8) (hr : r.length = 8) (ba : AllB a) (br : AllB r) : Blk (a ++ r) := ⟨by rw [List.length_append]; omega, allB_app ba br⟩
theorem half (x : List Int) (h : Blk x) : ((x.take 8).length = 8 ∧ AllB (x.take 8)) ∧ (x.drop 8).length = 8 ∧ AllB (x.drop 8) :=
  ⟨⟨by have := h.1; simp; omega, allB_tk h.2 8⟩, by have := h.1; simp; omega, allB_dr h.2 8⟩
theorem xb (a : List Int) (t : Nat) (ha : a.length = 8) (ba : AllB a) : (xorl a (b8 t)).length = 8 ∧ AllB (xorl a (b8 t)) :=
  ⟨by rw [xorl_len _ _ (by rw [ha, b8_len]), ha], xorl_all _ _ (by rw [ha, b8_len]) ba (b8_all t)⟩
theorem take_two (a r : List Int) (ha : a.length = 8) : (a ++ r).take 8 = a ∧ (a ++ r).drop 8 = r :=
  ⟨by rw [List.take_append_of_le_length (by omega), List.take_of_length_le (by omega)], by rw [List.drop_append_of_le_length (by omega), List.drop_eq_nil_of_le (by omega), List.nil_append]⟩

/-- what a step keeps -/
def Fit (L : Nat) (s : List Int) : Prop := s.length = L ∧ AllB s
theorem in_blk (s : List Int) (L i : Nat) (hs : Fit L s) (h8 : 8 ≤ i) (hi : i + 8 ≤ L) : Blk (hd s ++ pt s i) :=
  two_blk _ _ (hd_len s (by have := hs.1; omega)) (pt_len s i (by have := hs.1; omega)) (hd_all s hs.2) (pt_all s i hs.2)
theorem out_blk (s : List Int) (L t i : Nat) (hs : Fit L s) (h8 : 8 ≤ i) (hi : i + 8 ≤ L) : Blk (xorl (hd s) (b8 t) ++ pt s i) := by
  have := xb (hd s) t (hd_len s (by have := hs.1; omega)) (hd_all s hs.2)
  exact two_blk _ _ this.1 (pt_len s i (by have := hs.1; omega)) this.2 (pt_all s i hs.2)
theorem fw_fit (key : List Int) (hk : key.length = 32) (hka : AllB key) (s : List Int) (L t i : Nat) (hs : Fit L s) (h8 : 8 ≤ i) (hi : i + 8 ≤ L) : Fit L (fw key t i s) := by
  have hx := half _ (encr_blk key hk hka _ (in_blk s L i hs h8 hi))
  have hy := xb _ t hx.1.1 hx.1.2
  exact ⟨(put_len s i _ _ hy.1 hx.2.1 h8 (by have := hs.1; omega)).trans hs.1, put_all s i _ _ hs.2 hy.2 hx.2.2⟩
theorem bk_fit (key : List Int) (hk : key.length = 32) (hka : AllB key) (s : List Int) (L t i : Nat) (hs : Fit L s) (h8 : 8 ≤ i) (hi : i + 8 ≤ L) : Fit L (bk key t i s) := by
  have hx := half _ (decr_blk key hk hka _ (out_blk s L t i hs h8 hi))
  exact ⟨(put_len s i _ _ hx.1.1 hx.2.1 h8 (by have := hs.1; omega)).trans hs.1, put_all s i _ _ hs.2 hx.1.2 hx.2.2⟩
theorem bk_fw (key : List Int) (hk : key.length = 32) (hka : AllB key) (s : List Int) (L t i : Nat) (hs : Fit L s) (h8 : 8 ≤ i) (hi : i + 8 ≤ L) : bk key t i (fw key t i s) = s := by
  have hb := in_blk s L i hs h8 hi
  have hl : i + 8 ≤ s.length := by have := hs.1; omega
  have hx := half _ (encr_blk key hk hka _ hb)
  have hy := xb _ t hx.1.1 hx.1.2
  unfold bk
  have e1 : hd (fw key t i s) = xorl ((encr key (hd s ++ pt s i)).take 8) (b8 t) := hd_put s i _ _ hy.1
  have e2 : pt (fw key t i s) i = (encr key (hd s ++ pt s i)).drop 8 := pt_put s i _ _ hy.1 hx.2.1 h8 hl
  rw [e1, e2, xorl_back _ _ (by rw [hx.1.1, b8_len]) hx.1.2, List.take_append_drop, decr_encr key hk hka _ hb]
  have tt := take_two (hd s) (pt s i) (hd_len s (by omega))
  rw [tt.1, tt.2]
  unfold fw
  rw [put_put s i _ _ _ _ hy.1 hx.2.1 h8 hl, put_same s i h8]
theorem fw_bk (key : List Int) (hk : key.length = 32) (hka : AllB key) (s : List Int) (L t i : Nat) (hs : Fit L s) (h8 : 8 ≤ i) (hi : i + 8 ≤ L) : fw key t i (bk key t i s) = s := by
  have hb := out_blk s L t i hs h8 hi
  have hl : i + 8 ≤ s.length := by have := hs.1; omega
  have hx := half _ (decr_blk key hk hka _ hb)
  have hh := hd_len s (by omega)
  have hy := xb (hd s) t hh (hd_all s hs.2)
  unfold fw
  have e1 : hd (bk key t i s) = (decr key (xorl (hd s) (b8 t) ++ pt s i)).take 8 := hd_put s i _ _ hx.1.1
  have e2 : pt (bk key t i s) i = (decr key (xorl (hd s) (b8 t) ++ pt s i)).drop 8 := pt_put s i _ _ hx.1.1 hx.2.1 h8 hl
  rw [e1, e2, List.take_append_drop, encr_decr key hk hka _ hb]
  have tt := take_two (xorl (hd s) (b8 t)) (pt s i) hy.1
  rw [tt.1, tt.2, xorl_back _ _ (by rw [hh, b8_len]) (hd_all s hs.2)]
  unfold bk
  rw [put_put s i _ _ _ _ hx.1.1 hx.2.1 h8 hl, put_same s i h8]

/-- which part the step t (from 1 on) is about, of n -/
def ix (n t : Nat) : Nat := 8 * ((t - 1) % n + 1)
theorem ix_bd (n t : Nat) (hn : 0 < n) : 8 ≤ ix n t ∧ ix n t + 8 ≤ 8 * n + 8 := by
  have := Nat.mod_lt (t - 1) hn
  unfold ix
  omega
/-- t steps of n parts; k steps undone, from T on down -/
def ws (key : List Int) (n : Nat) (s : List Int) : Nat → List Int
  | 0 => s
  | t + 1 => fw key (t + 1) (ix n (t + 1)) (ws key n s t)
def us (key : List Int) (n : Nat) (s : List Int) (T : Nat) : Nat → List Int
  | 0 => s
  | k + 1 => bk key (T - k) (ix n (T - k)) (us key n s T k)
theorem ws_fit (key : List Int) (hk : key.length = 32) (hka : AllB key) (n : Nat) (hn : 0 < n) (s : List Int) (hs : Fit (8 * n + 8) s) (t : Nat) : Fit (8 * n + 8) (ws key n s t) := by
  induction t with
  | zero => exact hs
  | succ t ih => exact fw_fit key hk hka _ _ _ _ ih (ix_bd n _ hn).1 (ix_bd n _ hn).2
theorem us_fit (key : List Int) (hk : key.length = 32) (hka : AllB key) (n : Nat) (hn : 0 < n) (s : List Int) (hs : Fit (8 * n + 8) s) (T k : Nat) : Fit (8 * n + 8) (us key n s T k) := by
  induction k with
  | zero => exact hs
  | succ k ih => exact bk_fit key hk hka _ _ _ _ ih (ix_bd n _ hn).1 (ix_bd n _ hn).2
theorem us_ws (key : List Int) (hk : key.length = 32) (hka : AllB key) (n : Nat) (hn : 0 < n) (s : List Int) (hs : Fit (8 * n + 8) s) (T : Nat) : ∀ k, k ≤ T → us key n (ws key n s T) T k = ws key n s (T - k)
  | 0, _ => rfl
  | k + 1, h => by
    rw [us, us_ws key hk hka n hn s hs T k (by omega)]
    obtain ⟨t, ht⟩ : ∃ t, T - k = t + 1 := ⟨T - k - 1, by omega⟩
    rw [show T - (k + 1) = t by omega, ht, ws]
    exact bk_fw key hk hka _ _ _ _ (ws_fit key hk hka n hn s hs t) (ix_bd n _ hn).1 (ix_bd n _ hn).2
theorem ws_us (key : List Int) (hk : key.length = 32) (hka : AllB key) (n : Nat) (hn : 0 < n) (s : List Int) (hs : Fit (8 * n + 8) s) (T : Nat) : ∀ t, t ≤ T → ws key n (us key n s T T) t = us key n s T (T - t)
  | 0, _ => rfl
  | t + 1, h => by
    rw [ws, ws_us key hk hka n hn s hs T t (by omega)]
    obtain ⟨k, hk'⟩ : ∃ k, T - t = k + 1 := ⟨T - t - 1, by omega⟩
    rw [show T - (t + 1) = k by omega, hk', us, show T - k = t + 1 by omega]
    exact fw_bk key hk hka _ _ _ _ (us_fit key hk hka n hn s hs T k) (ix_bd n _ hn).1 (ix_bd n _ hn).2

/-- eight bytes 0xa6 -/
def a6 : List Int := List.replicate 8 166
theorem a6_len : a6.length = 8 := rfl
theorem a6_all : AllB a6 := allB_mem (by decide)
/-- what is wrapped; what is unwrapped, the first eight bytes with it -/
def wrapped (key b : List Int) (n : Nat) : List Int := ws key n (a6 ++ b) (6 * n)
def unwr (key c : List Int) (n : Nat) : List Int := us key n c (6 * n) (6 * n)
theorem a6_fit (b : List Int) (n : Nat) (hb : b.length = 8 * n) (ha : AllB b) : Fit (8 * n + 8) (a6 ++ b) := ⟨by rw [List.length_append, a6_len, hb]; omega, allB_app a6_all ha⟩
theorem wrapped_fit (key : List Int) (hk : key.length = 32) (hka : AllB key) (b : List Int) (n : Nat) (hn : 0 < n) (hb : b.length = 8 * n) (ha : AllB b) : Fit (8 * n + 8) (wrapped key b n) := ws_fit key hk hka n hn _ (a6_fit b n hb ha) _
theorem unwr_fit (key : List Int) (hk : key.length = 32) (hka : AllB key) (c : List Int) (n : Nat) (hn : 0 < n) (hc : Fit (8 * n + 8) c) : Fit (8 * n + 8) (unwr key c n) := us_fit key hk hka n hn c hc _ _
theorem unwr_wrapped (key : List Int) (hk : key.length = 32) (hka : AllB key) (b : List Int) (n : Nat) (hn : 0 < n) (hb : b.length = 8 * n) (ha : AllB b) : unwr key (wrapped key b n) n = a6 ++ b := by
  have := us_ws key hk hka n hn _ (a6_fit b n hb ha) (6 * n) (6 * n) (Nat.le_refl _)
  rwa [Nat.sub_self] at this
theorem wrapped_unwr (key : List Int) (hk : key.length = 32) (hka : AllB key) (c : List Int) (n : Nat) (hn : 0 < n) (hc : Fit (8 * n + 8) c) (h : hd (unwr key c n) = a6) : wrapped key ((unwr key c n).drop 8) n = c := by
  have e : a6 ++ (unwr key c n).drop 8 = unwr key c n := by rw [← h]; exact List.take_append_drop 8 _
  unfold wrapped
  rw [e]
  have := ws_us key hk hka n hn c hc (6 * n) (6 * n) (Nat.le_refl _)
  rwa [Nat.sub_self] at this
end Go.Proofs.Ytjiddmgnkldmkaa.wr
