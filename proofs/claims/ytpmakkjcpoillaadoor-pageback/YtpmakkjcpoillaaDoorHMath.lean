/- A head as a list of bytes: what it tells, what a mark, an erase or a program make of it. No claim of its own. -/
import Derived.Test.YtpmakkjcpoillaaDoorRefNumbers
import Derived.Test.YtpmakkjcpoillaaDoorXor
import Derived.Test.YtpmakkjcpoillaaDoorURef
import Derived.Test.YtpmakkjcpoillaaDoorURun
namespace Go.Proofs.YtpmakkjcpoillaaDoor.he
open Go.RowKit Go.Proofs.YtpmakkjcpoillaaDoor.fa
set_option maxRecDepth 20000

/-- x as s bytes, the greatest first -/
def be (x : Int) (s : Nat) : List Int := (le x s).reverse
theorem be_len (x : Int) (s : Nat) : (be x s).length = s := by simp [be, le_len]
theorem be_all (x : Int) (s : Nat) : AllB (be x s) := allB_reverse (le_all x s)
/-- the head's bytes -/
def hb (k n c l e t : Int) : List Int := [k, n, c, 0] ++ (be l 4 ++ (be e 8 ++ be t 8))
theorem hb_len (k n c l e t : Int) : (hb k n c l e t).length = 24 := by simp [hb, be_len]
/-- a head may be -/
def Rh (k n c : Int) : Prop := 1 ≤ k ∧ k ≤ 4 ∧ 0 ≤ n ∧ n ≤ 255 ∧ 0 ≤ c ∧ c ≤ 255
theorem allB_app {xs ys : List Int} (h : AllB xs) (h' : AllB ys) : AllB (xs ++ ys) := allB_mem fun x hx => by
  rcases List.mem_append.1 hx with q | q
  · obtain ⟨i, hi, rfl⟩ := mem_gb q; exact h i
  · obtain ⟨i, hi, rfl⟩ := mem_gb q; exact h' i
theorem hb_all {k n c : Int} (h : Rh k n c) (l e t : Int) : AllB (hb k n c l e t) := by
  obtain ⟨h1, h2, h3, h4, h5, h6⟩ := h
  refine allB_app (allB_mem fun x hx => ?_) (allB_app (be_all l 4) (allB_app (be_all e 8) (be_all t 8)))
  simp at hx
  rcases hx with rfl | rfl | rfl | rfl <;> omega
/-- bytes l to h of a list -/
def sub (xs : List Int) (l h : Nat) : List Int := (xs.take h).drop l
theorem sub_len (xs : List Int) (l h : Nat) (hh : h ≤ xs.length) : (sub xs l h).length = h - l := by simp [sub]; omega
theorem sub_gb (xs : List Int) (l h t : Nat) (ht : t < h - l) : gb (sub xs l h) t = gb xs (l + t) := gb_cut xs l h t ht
theorem allB_sub {xs : List Int} (h : AllB xs) (l u : Nat) : AllB (sub xs l u) := allB_mem fun x hx => by
  obtain ⟨i, hi, rfl⟩ := mem_gb (List.mem_of_mem_take (List.mem_of_mem_drop hx))
  exact h i
theorem gb_appL (xs ys : List Int) (k : Nat) : gb (xs ++ ys) k = if k < xs.length then gb xs k else gb ys (k - xs.length) := by
  unfold gb
  rw [List.getD_eq_getElem?_getD]
  by_cases h : k < xs.length
  · rw [if_pos h, List.getElem?_append_left h]; rfl
  · rw [if_neg h, List.getElem?_append_right (by omega)]; rfl
theorem sub_of (a b c : List Int) : sub (a ++ (b ++ c)) a.length (a.length + b.length) = b := by
  unfold sub
  rw [← List.append_assoc, List.take_append_of_le_length (by simp), List.take_of_length_le (by simp), List.drop_left]
theorem sub_at (a b c : List Int) (l h : Nat) (hl : a.length = l) (hh : l + b.length = h) : sub (a ++ (b ++ c)) l h = b := by
  subst hl; subst hh; exact sub_of a b c

/-! ### numbers and bytes -/
def n4 (a b c d : Int) : Int := ((a * 256 + b) * 256 + c) * 256 + d
theorem num_of4 (a b c d : Int) (ha : 0 ≤ a ∧ a ≤ 255) (hb : 0 ≤ b ∧ b ≤ 255) (hc : 0 ≤ c ∧ c ≤ 255) (_hd : 0 ≤ d ∧ d ≤ 255) : num (last8 [a, b, c, d]) = n4 a b c d := by
  simp [num, last8, n4]
  omega
theorem num_of8 (a b c d e f g h : Int) (ha : 0 ≤ a ∧ a ≤ 255) (hb : 0 ≤ b ∧ b ≤ 255) (hc : 0 ≤ c ∧ c ≤ 255) (hd : 0 ≤ d ∧ d ≤ 255) (he : 0 ≤ e ∧ e ≤ 255) (hf : 0 ≤ f ∧ f ≤ 255) (hg : 0 ≤ g ∧ g ≤ 255) (_hh : 0 ≤ h ∧ h ≤ 255) : num (last8 [a, b, c, d, e, f, g, h]) = n4 a b c d * 4294967296 + n4 e f g h := by
  simp [num, last8, n4]
  omega
theorem be4 (x : Int) : be x 4 = [x / 256 / 256 / 256 % 256, x / 256 / 256 % 256, x / 256 % 256, x % 256] := rfl
theorem be8 (x : Int) : be x 8 = [x / 256 / 256 / 256 / 256 / 256 / 256 / 256 % 256, x / 256 / 256 / 256 / 256 / 256 / 256 % 256, x / 256 / 256 / 256 / 256 / 256 % 256, x / 256 / 256 / 256 / 256 % 256, x / 256 / 256 / 256 % 256, x / 256 / 256 % 256, x / 256 % 256, x % 256] := rfl
theorem num_be4 (x : Int) (h : 0 ≤ x ∧ x ≤ 4294967295) : num (last8 (be x 4)) = x := by
  rw [be4, num_of4 _ _ _ _ (by omega) (by omega) (by omega) (by omega)]
  unfold n4; omega
theorem num_be8 (x : Int) (h : 0 ≤ x ∧ x ≤ 18446744073709551615) : num (last8 (be x 8)) = x := by
  rw [be8, num_of8 _ _ _ _ _ _ _ _ (by omega) (by omega) (by omega) (by omega) (by omega) (by omega) (by omega) (by omega)]
  unfold n4; omega
theorem list4 {xs : List Int} (h : xs.length = 4) : xs = [gb xs 0, gb xs 1, gb xs 2, gb xs 3] := by
  match xs, h with
  | [a, b, c, d], _ => rfl
theorem list8 {xs : List Int} (h : xs.length = 8) : xs = [gb xs 0, gb xs 1, gb xs 2, gb xs 3, gb xs 4, gb xs 5, gb xs 6, gb xs 7] := by
  match xs, h with
  | [a, b, c, d, e, f, g, h], _ => rfl
theorem be_num4 {xs : List Int} (h : xs.length = 4) (ha : AllB xs) : be (num (last8 xs)) 4 = xs ∧ 0 ≤ num (last8 xs) ∧ num (last8 xs) ≤ 4294967295 := by
  have h0 := ha 0; have h1 := ha 1; have h2 := ha 2; have h3 := ha 3
  rw [list4 h]
  generalize gb xs 0 = a at *; generalize gb xs 1 = b at *; generalize gb xs 2 = c at *; generalize gb xs 3 = d at *
  rw [num_of4 _ _ _ _ h0 h1 h2 h3, be4]
  unfold n4
  refine ⟨?_, by omega, by omega⟩
  have e1 : (((a * 256 + b) * 256 + c) * 256 + d) % 256 = d := by omega
  have e2 : (((a * 256 + b) * 256 + c) * 256 + d) / 256 % 256 = c := by omega
  have e3 : (((a * 256 + b) * 256 + c) * 256 + d) / 256 / 256 % 256 = b := by omega
  have e4 : (((a * 256 + b) * 256 + c) * 256 + d) / 256 / 256 / 256 % 256 = a := by omega
  rw [e1, e2, e3, e4]
theorem be_num8 {xs : List Int} (h : xs.length = 8) (ha : AllB xs) : be (num (last8 xs)) 8 = xs ∧ 0 ≤ num (last8 xs) ∧ num (last8 xs) ≤ 18446744073709551615 := by
  have h0 := ha 0; have h1 := ha 1; have h2 := ha 2; have h3 := ha 3; have h4 := ha 4; have h5 := ha 5; have h6 := ha 6; have h7 := ha 7
  rw [list8 h]
  generalize gb xs 0 = a at *; generalize gb xs 1 = b at *; generalize gb xs 2 = c at *; generalize gb xs 3 = d at *
  generalize gb xs 4 = e at *; generalize gb xs 5 = f at *; generalize gb xs 6 = g at *; generalize gb xs 7 = i at *
  rw [num_of8 _ _ _ _ _ _ _ _ h0 h1 h2 h3 h4 h5 h6 h7, be8]
  unfold n4
  refine ⟨?_, by omega, by omega⟩
  generalize hN : (((a * 256 + b) * 256 + c) * 256 + d) * 4294967296 + (((e * 256 + f) * 256 + g) * 256 + i) = N
  have e1 : N % 256 = i := by omega
  have f1 : N / 256 = (((a * 256 + b) * 256 + c) * 256 + d) * 16777216 + ((e * 256 + f) * 256 + g) := by omega
  have e2 : N / 256 % 256 = g := by omega
  have f2 : N / 256 / 256 = (((a * 256 + b) * 256 + c) * 256 + d) * 65536 + (e * 256 + f) := by omega
  have e3 : N / 256 / 256 % 256 = f := by omega
  have f3 : N / 256 / 256 / 256 = (((a * 256 + b) * 256 + c) * 256 + d) * 256 + e := by omega
  have e4 : N / 256 / 256 / 256 % 256 = e := by omega
  have f4 : N / 256 / 256 / 256 / 256 = ((a * 256 + b) * 256 + c) * 256 + d := by omega
  have e5 : N / 256 / 256 / 256 / 256 % 256 = d := by omega
  have f5 : N / 256 / 256 / 256 / 256 / 256 = (a * 256 + b) * 256 + c := by omega
  have e6 : N / 256 / 256 / 256 / 256 / 256 % 256 = c := by omega
  have f6 : N / 256 / 256 / 256 / 256 / 256 / 256 = a * 256 + b := by omega
  have e7 : N / 256 / 256 / 256 / 256 / 256 / 256 % 256 = b := by omega
  have e8 : N / 256 / 256 / 256 / 256 / 256 / 256 / 256 % 256 = a := by omega
  rw [e1, e2, e3, e4, e5, e6, e7, e8]

/-! ### what an end tells -/
def qk (xs : List Int) : Int := gb xs 0
def qn (xs : List Int) : Int := gb xs 1
def qc (xs : List Int) : Int := gb xs 2
def ql (xs : List Int) : Int := num (last8 (sub xs 4 8))
def qe (xs : List Int) : Int := num (last8 (sub xs 8 16))
def qt (xs : List Int) : Int := num (last8 (sub xs 16 24))
/-- the end tells a head -/
def Tl (xs : List Int) : Prop := inv (sub xs 0 24) = sub xs 24 48 ∧ gb xs 3 = 0 ∧ 1 ≤ gb xs 0 ∧ gb xs 0 ≤ 4
theorem ext4 (xs : List Int) (h : 24 ≤ xs.length) (ha : AllB xs) (h0 : gb xs 3 = 0) : hb (qk xs) (qn xs) (qc xs) (ql xs) (qe xs) (qt xs) = sub xs 0 24 := by
  have a1 := (be_num4 (xs := sub xs 4 8) (by rw [sub_len _ _ _ (by omega)]) (allB_sub ha 4 8)).1
  have a2 := (be_num8 (xs := sub xs 8 16) (by rw [sub_len _ _ _ (by omega)]) (allB_sub ha 8 16)).1
  have a3 := (be_num8 (xs := sub xs 16 24) (by rw [sub_len _ _ _ (by omega)]) (allB_sub ha 16 24)).1
  unfold hb ql qe qt
  rw [a1, a2, a3]
  refine ext_gb (by simp [sub_len, show 8 ≤ xs.length by omega, show 16 ≤ xs.length by omega, h]) fun t ht => ?_
  have l1 := sub_len xs 4 8 (by omega)
  have l2 := sub_len xs 8 16 (by omega)
  have l3 := sub_len xs 16 24 (by omega)
  simp only [List.length_append, List.length_cons, List.length_nil, l1, l2, l3] at ht
  rw [sub_gb xs 0 24 t (by omega), Nat.zero_add, gb_appL]
  split
  · rename_i q
    simp at q
    match t, q with
    | 0, _ => rfl
    | 1, _ => rfl
    | 2, _ => rfl
    | 3, _ => exact h0.symm
  · rename_i q
    simp at q
    simp only [List.length_cons, List.length_nil]
    rw [gb_appL, l1]
    split
    · rw [sub_gb xs 4 8 _ (by omega)]; congr 1; omega
    · rw [gb_appL, l2]
      split
      · rw [sub_gb xs 8 16 _ (by omega)]; congr 1; omega
      · rw [sub_gb xs 16 24 _ (by omega)]; congr 1; omega
theorem hb3 (k n c l e t : Int) : gb (hb k n c l e t) 3 = 0 := rfl
/-- the numbers that the head's bytes tell -/
theorem q_hb {k n c l e t : Int} (ys : List Int) (hl : 0 ≤ l ∧ l ≤ 4294967295) (he : 0 ≤ e ∧ e ≤ 18446744073709551615) (ht : 0 ≤ t ∧ t ≤ 18446744073709551615) :
    qk (hb k n c l e t ++ ys) = k ∧ qn (hb k n c l e t ++ ys) = n ∧ qc (hb k n c l e t ++ ys) = c ∧ ql (hb k n c l e t ++ ys) = l ∧ qe (hb k n c l e t ++ ys) = e ∧ qt (hb k n c l e t ++ ys) = t := by
  have e1 : hb k n c l e t ++ ys = [k, n, c, 0] ++ (be l 4 ++ (be e 8 ++ be t 8 ++ ys)) := by simp [hb]
  have e2 : hb k n c l e t ++ ys = ([k, n, c, 0] ++ be l 4) ++ (be e 8 ++ (be t 8 ++ ys)) := by simp [hb]
  have e3 : hb k n c l e t ++ ys = ([k, n, c, 0] ++ be l 4 ++ be e 8) ++ (be t 8 ++ ys) := by simp [hb]
  refine ⟨rfl, rfl, rfl, ?_, ?_, ?_⟩
  · unfold ql; rw [e1, sub_at _ _ _ 4 8 rfl (by rw [be_len]), num_be4 l hl]
  · unfold qe; rw [e2, sub_at _ _ _ 8 16 (by simp [be_len]) (by rw [be_len]), num_be8 e he]
  · unfold qt; rw [e3, sub_at _ _ _ 16 24 (by simp [be_len]) (by rw [be_len]), num_be8 t ht]

/-- an end: head, complement, tag, mark -/
def hend (hs tag mark : List Int) : List Int := hs ++ (inv hs ++ (tag ++ mark))
theorem hend_len {hs tag mark : List Int} (h : hs.length = 24) (h1 : tag.length = 32) (h2 : mark.length = 8) : (hend hs tag mark).length = 88 := by
  simp [hend, inv_len, h, h1, h2]
theorem hend_all {hs tag mark : List Int} (h : AllB hs) (h1 : AllB tag) (h2 : AllB mark) : AllB (hend hs tag mark) := allB_app h (allB_app (inv_all hs h) (allB_app h1 h2))
theorem hend_sub {hs tag mark : List Int} (h : hs.length = 24) (h1 : tag.length = 32) : sub (hend hs tag mark) 0 24 = hs ∧ sub (hend hs tag mark) 24 48 = inv hs ∧ sub (hend hs tag mark) 48 80 = tag ∧ (hend hs tag mark).drop 80 = mark := by
  refine ⟨?_, ?_, ?_, ?_⟩
  · have : hend hs tag mark = [] ++ (hs ++ (inv hs ++ (tag ++ mark))) := rfl
    rw [this, sub_at _ _ _ 0 24 rfl (by omega)]
  · unfold hend; rw [sub_at _ _ _ 24 48 h (by rw [inv_len]; omega)]
  · have : hend hs tag mark = (hs ++ inv hs) ++ (tag ++ mark) := by simp [hend]
    rw [this, sub_at _ _ _ 48 80 (by rw [List.length_append, inv_len]; omega) (by omega)]
  · have : hend hs tag mark = (hs ++ inv hs ++ tag) ++ mark := by simp [hend]
    rw [this, List.drop_append_of_le_length (by simp [inv_len]; omega), List.drop_of_length_le (by simp [inv_len]; omega), List.nil_append]
/-- a right head's end tells it -/
theorem hend_tl {k n c l e t : Int} (h : Rh k n c) (tag mark : List Int) (h1 : tag.length = 32) : Tl (hend (hb k n c l e t) tag mark) := by
  obtain ⟨s1, s2, -, -⟩ := hend_sub (mark := mark) (hb_len k n c l e t) h1
  refine ⟨by rw [s1, s2], rfl, h.1, h.2.1⟩
/-- what the reference asks of an end -/
theorem tl_ref (xs : List Int) (hx : xs.length = 88) (ha : AllB xs) : Tl xs ↔ Rh (qk xs) (qn xs) (qc xs) ∧ hb (qk xs) (qn xs) (qc xs) (ql xs) (qe xs) (qt xs) ++ inv (hb (qk xs) (qn xs) (qc xs) (ql xs) (qe xs) (qt xs)) = sub xs 0 48 := by
  have l1 := sub_len xs 0 24 (by omega)
  have l2 := sub_len xs 24 48 (by omega)
  have e0 : sub xs 0 48 = sub xs 0 24 ++ sub xs 24 48 := by
    have z := List.take_append_drop 24 (xs.take 48)
    rw [List.take_take, show min 24 48 = 24 by omega] at z
    unfold sub
    rw [List.drop_zero, List.drop_zero]
    exact z.symm
  constructor
  · rintro ⟨h1, h2, h3, h4⟩
    have b1 := ha 1; have b2 := ha 2
    refine ⟨⟨h3, h4, b1.1, b1.2, b2.1, b2.2⟩, ?_⟩
    rw [ext4 xs (by omega) ha h2, h1, e0]
  · rintro ⟨hr, h⟩
    rw [e0] at h
    obtain ⟨h1, h2⟩ := List.append_inj h (by rw [hb_len, l1])
    refine ⟨by rw [← h1, h2], ?_, hr.1, hr.2.1⟩
    have := congrArg (fun l => gb l 3) h1
    simp only [sub_gb xs 0 24 3 (by omega)] at this
    rw [hb3] at this
    exact this.symm

/-! ### bits -/
theorem bit_xr (x t : Nat) (ht : t < 8) : bit (255 ^^^ x) t = !bit x t := by
  rw [bit_test, bit_test, Nat.testBit_xor]
  have : (255 : Nat).testBit t = true := by
    match t, ht with
    | 0, _ => rfl
    | 1, _ => rfl
    | 2, _ => rfl
    | 3, _ => rfl
    | 4, _ => rfl
    | 5, _ => rfl
    | 6, _ => rfl
    | 7, _ => rfl
  rw [this]
  cases x.testBit t <;> rfl
theorem hs_inv (xs : List Int) (i : Nat) (h : i < 8 * xs.length) : hs (inv xs) i = !hs xs i := by
  unfold hs
  rw [inv_gb xs (i / 8) (by omega)]
  unfold xr
  rw [Int.toNat_natCast]
  exact bit_xr _ _ (Nat.mod_lt _ (by omega))
theorem hs_ext {xs ys : List Int} (h : xs.length = ys.length) (hx : AllB xs) (hy : AllB ys) (hb : ∀ i, i < 8 * xs.length → hs xs i = hs ys i) : xs = ys := by
  rw [← ofb_hs ys hy (hs xs) fun i hi => hb i (by omega), ← h]
  exact (ofb_hs xs hx _ fun _ _ => rfl).symm
theorem hs_app (xs ys : List Int) (i : Nat) : hs (xs ++ ys) i = if i < 8 * xs.length then hs xs i else hs ys (i - 8 * xs.length) := by
  unfold hs
  rw [gb_appL]
  by_cases h : i < 8 * xs.length
  · rw [if_pos (by omega), if_pos h]
  · rw [if_neg (by omega), if_neg h, show (i - 8 * xs.length) / 8 = i / 8 - xs.length by omega, show (i - 8 * xs.length) % 8 = i % 8 by omega]
/-- bits that were all set, or all cleared, leave no complement but where nothing changed -/
theorem bits_whole {p y z : List Int} (hp : AllB p) (hy : AllB y) (l1 : y.length = p.length) (he : inv y = z) (hm : (∀ i, i < 8 * (2 * p.length) → hs (p ++ inv p) i = true → hs (y ++ z) i = true) ∨ (∀ i, i < 8 * (2 * p.length) → hs (y ++ z) i = true → hs (p ++ inv p) i = true)) : y = p := by
  refine hs_ext l1 hy hp fun i hi => ?_
  have a1 := hs_app p (inv p) i
  have a2 := hs_app p (inv p) (8 * p.length + i)
  have a3 := hs_app y z i
  have a4 := hs_app y z (8 * y.length + i)
  rw [if_pos (by omega)] at a1 a3
  rw [if_neg (by omega), show 8 * p.length + i - 8 * p.length = i by omega, hs_inv p i (by omega)] at a2
  rw [if_neg (by omega), show 8 * y.length + i - 8 * y.length = i by omega, ← he, hs_inv y i (by omega)] at a4
  rw [l1] at a4
  rw [he] at a4
  rcases hm with hm | hm
  · have m1 := hm i (by omega)
    have m2 := hm (8 * p.length + i) (by omega)
    rw [a1, a3] at m1
    rw [a2, a4] at m2
    cases q : hs p i <;> cases r : hs y i <;> simp [q, r] at m1 m2 ⊢
  · have m1 := hm i (by omega)
    have m2 := hm (8 * p.length + i) (by omega)
    rw [a1, a3] at m1
    rw [a2, a4] at m2
    cases q : hs p i <;> cases r : hs y i <;> simp [q, r] at m1 m2 ⊢

/-! ### a mark -/
def mark (n : Nat) : List Int := List.replicate (n - 8) 255 ++ List.replicate 8 0
theorem mark_len (n : Nat) (h : 8 ≤ n) : (mark n).length = n := by simp [mark]; omega
theorem mark_all (n : Nat) : AllB (mark n) := allB_app (allB_replicate 255 _ (by omega)) (allB_replicate 0 _ (by omega))
theorem and255 (x : Nat) (h : x < 256) : x &&& 255 = x := by
  have : (255 : Nat) = 2 ^ 8 - 1 := by decide
  rw [this, Nat.and_two_pow_sub_one_eq_mod, Nat.mod_eq_of_lt (by omega)]
theorem gb_repl (k t : Nat) (x : Int) (h : t < k) : gb (List.replicate k x) t = x := by simp [gb, List.getD, h]
/-- an end, programmed with a mark -/
theorem and_mark {n : Nat} (h : 88 ≤ n) {hs tag mk : List Int} (h0 : hs.length = 24) (h1 : tag.length = 32) (h2 : mk.length = 8) (a0 : AllB hs) (a1 : AllB tag) (a2 : AllB mk) : andl (hend hs tag mk) ((mark n).drop (n - 88)) = hend hs tag (List.replicate 8 0) := by
  have l0 := hend_len (mark := mk) h0 h1 h2
  have l1 := hend_len (mark := List.replicate 8 0) h0 h1 (by simp)
  have aa := hend_all a0 a1 a2
  refine ext_gb (by rw [andl_len, l0, l1]) fun t ht => ?_
  rw [andl_len, l0] at ht
  rw [andl_gb _ _ t (by omega), gb_drop]
  have e : hend hs tag mk = (hs ++ inv hs ++ tag) ++ mk := by simp [hend]
  have e' : hend hs tag (List.replicate 8 0) = (hs ++ inv hs ++ tag) ++ List.replicate 8 0 := by simp [hend]
  have el : (hs ++ inv hs ++ tag).length = 80 := by simp [inv_len]; omega
  have b := aa t
  unfold mark
  rw [gb_appL, List.length_replicate]
  have z1 : gb (hend hs tag (List.replicate 8 0)) t = if t < 80 then gb (hs ++ inv hs ++ tag) t else 0 := by
    rw [e', gb_appL, el]
    split
    · rfl
    · exact gb_repl _ _ _ (by omega)
  by_cases q : t < 80
  · have z2 : gb (hend hs tag mk) t = gb (hs ++ inv hs ++ tag) t := by rw [e, gb_appL, if_pos (by rw [el]; exact q)]
    rw [if_pos (by omega), gb_repl _ _ _ (by omega), show (255 : Int).toNat = 255 from rfl, and255 _ (by omega), z1, if_pos q, ← z2]
    omega
  · rw [if_neg (by omega), gb_repl _ _ _ (by omega), show (0 : Int).toNat = 0 from rfl, Nat.and_zero, z1, if_neg q]; rfl
end Go.Proofs.YtpmakkjcpoillaaDoor.he
