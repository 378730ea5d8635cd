/- Texts put together (a claim holds few files). No claim of its own. -/
import Derived.Test.YtbkaecjkgjkheaaDoorPackO
import Derived.Test.YtbkaecjkgjkheaaDoorPackJ
import Derived.Test.YtbkaecjkgjkheaaDoorPackB
import Derived.Test.YtbkaecjkgjkheaaDoorPackA
import Derived.Lib.AppendZeros
import Derived.Lib.SliceRun
/- What the reference's Program and Erase answer. No claim of its own. -/
namespace Go.Proofs.YtbkaecjkgjkheaaDoor.fa
open Go.RowKit
set_option maxRecDepth 20000

/-- which bits are there behind a program: of N bits the last one to be cleared is left out, if it fails -/
def prg (xs ys m : List Int) (fl : Bool) (N i : Nat) : Bool := hs xs i && !(due xs ys i && mk m i && !(fl && (i + 1 == lst xs ys N)))
/-- the first k bits are done -/
def upb (F G : Nat → Bool) (k i : Nat) : Bool := if i < k then F i else G i
theorem upb_zero (F G : Nat → Bool) (n : Nat) : ofb n (upb F G 0) = ofb n G := ofb_congr n fun i _ => by unfold upb; rw [if_neg (by omega)]
theorem upb_end (F G : Nat → Bool) (n : Nat) : ofb n (upb F G (8 * n)) = ofb n F := ofb_congr n fun i hi => by unfold upb; rw [if_pos hi]
theorem upb_same (F G : Nat → Bool) (n k : Nat) (h : F k = G k) : ofb n (upb F G (k + 1)) = ofb n (upb F G k) := ofb_congr n fun i _ => by
  unfold upb
  by_cases h1 : i < k
  · rw [if_pos h1, if_pos (by omega)]
  · rw [if_neg h1]
    by_cases h2 : i = k
    · subst h2; rw [if_pos (by omega), h]
    · rw [if_neg (by omega)]
theorem upb_at (F G : Nat → Bool) (k : Nat) : upb F G k k = G k ∧ upb F G (k + 1) k = F k ∧ ∀ i, i ≠ k → upb F G k i = upb F G (k + 1) i := by
  unfold upb
  refine ⟨by rw [if_neg (by omega)], by rw [if_pos (by omega)], fun i hi => ?_⟩
  by_cases h1 : i < k
  · rw [if_pos h1, if_pos (by omega)]
  · rw [if_neg h1, if_neg (by omega)]
theorem bo_nat (m : List Int) (k : Nat) : bo m (k : Int) = mk m k := by unfold bo; rw [if_neg (by omega), Int.toNat_natCast]
theorem lst_succ (xs ys : List Int) (k : Nat) : lst xs ys (k + 1) = if due xs ys k then k + 1 else lst xs ys k := rfl
theorem gb_out (xs : List Int) (k : Nat) (h : xs.length ≤ k) : gb xs k = 0 := by simp [gb, List.getD, h]
end Go.Proofs.YtbkaecjkgjkheaaDoor.fa

/- A head as a list of bytes: what it tells, what a mark, an erase or a program make of it. No claim of its own. -/
namespace Go.Proofs.YtbkaecjkgjkheaaDoor.he
open Go.RowKit Go.Proofs.YtbkaecjkgjkheaaDoor.fa
set_option maxRecDepth 20000

/-- x as s bytes, the greatest first -/
def be (x : Int) (s : Nat) : List Int := (le x s).reverse
theorem be_len (x : Int) (s : Nat) : (be x s).length = s := by simp [be, le_len]
theorem be_all (x : Int) (s : Nat) : AllB (be x s) := allB_reverse (le_all x s)
/-- the head's bytes -/
def hb (k n c l e t : Int) : List Int := [k, n, c, 0] ++ (be l 4 ++ (be e 8 ++ be t 8))
theorem hb_len (k n c l e t : Int) : (hb k n c l e t).length = 24 := by simp [hb, be_len]
/-- a head may be -/
def Rh (k n c : Int) : Prop := 1 ≤ k ∧ k ≤ 4 ∧ 0 ≤ n ∧ n ≤ 255 ∧ 0 ≤ c ∧ c ≤ 255
theorem allB_app {xs ys : List Int} (h : AllB xs) (h' : AllB ys) : AllB (xs ++ ys) := allB_mem fun x hx => by
  rcases List.mem_append.1 hx with q | q
  · obtain ⟨i, hi, rfl⟩ := mem_gb q; exact h i
  · obtain ⟨i, hi, rfl⟩ := mem_gb q; exact h' i
theorem hb_all {k n c : Int} (h : Rh k n c) (l e t : Int) : AllB (hb k n c l e t) := by
  obtain ⟨h1, h2, h3, h4, h5, h6⟩ := h
  refine allB_app (allB_mem fun x hx => ?_) (allB_app (be_all l 4) (allB_app (be_all e 8) (be_all t 8)))
  simp at hx
  rcases hx with rfl | rfl | rfl | rfl <;> omega
/-- bytes l to h of a list -/
def sub (xs : List Int) (l h : Nat) : List Int := (xs.take h).drop l
theorem sub_len (xs : List Int) (l h : Nat) (hh : h ≤ xs.length) : (sub xs l h).length = h - l := by simp [sub]; omega
theorem sub_gb (xs : List Int) (l h t : Nat) (ht : t < h - l) : gb (sub xs l h) t = gb xs (l + t) := gb_cut xs l h t ht
theorem allB_sub {xs : List Int} (h : AllB xs) (l u : Nat) : AllB (sub xs l u) := allB_mem fun x hx => by
  obtain ⟨i, hi, rfl⟩ := mem_gb (List.mem_of_mem_take (List.mem_of_mem_drop hx))
  exact h i
theorem gb_appL (xs ys : List Int) (k : Nat) : gb (xs ++ ys) k = if k < xs.length then gb xs k else gb ys (k - xs.length) := by
  unfold gb
  rw [List.getD_eq_getElem?_getD]
  by_cases h : k < xs.length
  · rw [if_pos h, List.getElem?_append_left h]; rfl
  · rw [if_neg h, List.getElem?_append_right (by omega)]; rfl
theorem sub_of (a b c : List Int) : sub (a ++ (b ++ c)) a.length (a.length + b.length) = b := by
  unfold sub
  rw [← List.append_assoc, List.take_append_of_le_length (by simp), List.take_of_length_le (by simp), List.drop_left]
theorem sub_at (a b c : List Int) (l h : Nat) (hl : a.length = l) (hh : l + b.length = h) : sub (a ++ (b ++ c)) l h = b := by
  subst hl; subst hh; exact sub_of a b c

/-! ### numbers and bytes -/
def n4 (a b c d : Int) : Int := ((a * 256 + b) * 256 + c) * 256 + d
theorem num_of4 (a b c d : Int) (ha : 0 ≤ a ∧ a ≤ 255) (hb : 0 ≤ b ∧ b ≤ 255) (hc : 0 ≤ c ∧ c ≤ 255) (_hd : 0 ≤ d ∧ d ≤ 255) : num (last8 [a, b, c, d]) = n4 a b c d := by
  simp [num, last8, n4]
  omega
theorem num_of8 (a b c d e f g h : Int) (ha : 0 ≤ a ∧ a ≤ 255) (hb : 0 ≤ b ∧ b ≤ 255) (hc : 0 ≤ c ∧ c ≤ 255) (hd : 0 ≤ d ∧ d ≤ 255) (he : 0 ≤ e ∧ e ≤ 255) (hf : 0 ≤ f ∧ f ≤ 255) (hg : 0 ≤ g ∧ g ≤ 255) (_hh : 0 ≤ h ∧ h ≤ 255) : num (last8 [a, b, c, d, e, f, g, h]) = n4 a b c d * 4294967296 + n4 e f g h := by
  simp [num, last8, n4]
  omega
theorem be4 (x : Int) : be x 4 = [x / 256 / 256 / 256 % 256, x / 256 / 256 % 256, x / 256 % 256, x % 256] := rfl
theorem be8 (x : Int) : be x 8 = [x / 256 / 256 / 256 / 256 / 256 / 256 / 256 % 256, x / 256 / 256 / 256 / 256 / 256 / 256 % 256, x / 256 / 256 / 256 / 256 / 256 % 256, x / 256 / 256 / 256 / 256 % 256, x / 256 / 256 / 256 % 256, x / 256 / 256 % 256, x / 256 % 256, x % 256] := rfl
theorem num_be4 (x : Int) (h : 0 ≤ x ∧ x ≤ 4294967295) : num (last8 (be x 4)) = x := by
  rw [be4, num_of4 _ _ _ _ (by omega) (by omega) (by omega) (by omega)]
  unfold n4; omega
theorem num_be8 (x : Int) (h : 0 ≤ x ∧ x ≤ 18446744073709551615) : num (last8 (be x 8)) = x := by
  rw [be8, num_of8 _ _ _ _ _ _ _ _ (by omega) (by omega) (by omega) (by omega) (by omega) (by omega) (by omega) (by omega)]
  unfold n4; omega
theorem list4 {xs : List Int} (h : xs.length = 4) : xs = [gb xs 0, gb xs 1, gb xs 2, gb xs 3] := by
  match xs, h with
  | [a, b, c, d], _ => rfl
theorem list8 {xs : List Int} (h : xs.length = 8) : xs = [gb xs 0, gb xs 1, gb xs 2, gb xs 3, gb xs 4, gb xs 5, gb xs 6, gb xs 7] := by
  match xs, h with
  | [a, b, c, d, e, f, g, h], _ => rfl
theorem be_num4 {xs : List Int} (h : xs.length = 4) (ha : AllB xs) : be (num (last8 xs)) 4 = xs ∧ 0 ≤ num (last8 xs) ∧ num (last8 xs) ≤ 4294967295 := by
  have h0 := ha 0; have h1 := ha 1; have h2 := ha 2; have h3 := ha 3
  rw [list4 h]
  generalize gb xs 0 = a at *; generalize gb xs 1 = b at *; generalize gb xs 2 = c at *; generalize gb xs 3 = d at *
  rw [num_of4 _ _ _ _ h0 h1 h2 h3, be4]
  unfold n4
  refine ⟨?_, by omega, by omega⟩
  have e1 : (((a * 256 + b) * 256 + c) * 256 + d) % 256 = d := by omega
  have e2 : (((a * 256 + b) * 256 + c) * 256 + d) / 256 % 256 = c := by omega
  have e3 : (((a * 256 + b) * 256 + c) * 256 + d) / 256 / 256 % 256 = b := by omega
  have e4 : (((a * 256 + b) * 256 + c) * 256 + d) / 256 / 256 / 256 % 256 = a := by omega
  rw [e1, e2, e3, e4]
theorem be_num8 {xs : List Int} (h : xs.length = 8) (ha : AllB xs) : be (num (last8 xs)) 8 = xs ∧ 0 ≤ num (last8 xs) ∧ num (last8 xs) ≤ 18446744073709551615 := by
  have h0 := ha 0; have h1 := ha 1; have h2 := ha 2; have h3 := ha 3; have h4 := ha 4; have h5 := ha 5; have h6 := ha 6; have h7 := ha 7
  rw [list8 h]
  generalize gb xs 0 = a at *; generalize gb xs 1 = b at *; generalize gb xs 2 = c at *; generalize gb xs 3 = d at *
  generalize gb xs 4 = e at *; generalize gb xs 5 = f at *; generalize gb xs 6 = g at *; generalize gb xs 7 = i at *
  rw [num_of8 _ _ _ _ _ _ _ _ h0 h1 h2 h3 h4 h5 h6 h7, be8]
  unfold n4
  refine ⟨?_, by omega, by omega⟩
  generalize hN : (((a * 256 + b) * 256 + c) * 256 + d) * 4294967296 + (((e * 256 + f) * 256 + g) * 256 + i) = N
  have e1 : N % 256 = i := by omega
  have f1 : N / 256 = (((a * 256 + b) * 256 + c) * 256 + d) * 16777216 + ((e * 256 + f) * 256 + g) := by omega
  have e2 : N / 256 % 256 = g := by omega
  have f2 : N / 256 / 256 = (((a * 256 + b) * 256 + c) * 256 + d) * 65536 + (e * 256 + f) := by omega
  have e3 : N / 256 / 256 % 256 = f := by omega
  have f3 : N / 256 / 256 / 256 = (((a * 256 + b) * 256 + c) * 256 + d) * 256 + e := by omega
  have e4 : N / 256 / 256 / 256 % 256 = e := by omega
  have f4 : N / 256 / 256 / 256 / 256 = ((a * 256 + b) * 256 + c) * 256 + d := by omega
  have e5 : N / 256 / 256 / 256 / 256 % 256 = d := by omega
  have f5 : N / 256 / 256 / 256 / 256 / 256 = (a * 256 + b) * 256 + c := by omega
  have e6 : N / 256 / 256 / 256 / 256 / 256 % 256 = c := by omega
  have f6 : N / 256 / 256 / 256 / 256 / 256 / 256 = a * 256 + b := by omega
  have e7 : N / 256 / 256 / 256 / 256 / 256 / 256 % 256 = b := by omega
  have e8 : N / 256 / 256 / 256 / 256 / 256 / 256 / 256 % 256 = a := by omega
  rw [e1, e2, e3, e4, e5, e6, e7, e8]

/-! ### what an end tells -/
def qk (xs : List Int) : Int := gb xs 0
def qn (xs : List Int) : Int := gb xs 1
def qc (xs : List Int) : Int := gb xs 2
def ql (xs : List Int) : Int := num (last8 (sub xs 4 8))
def qe (xs : List Int) : Int := num (last8 (sub xs 8 16))
def qt (xs : List Int) : Int := num (last8 (sub xs 16 24))
/-- the end tells a head -/
def Tl (xs : List Int) : Prop := inv (sub xs 0 24) = sub xs 24 48 ∧ gb xs 3 = 0 ∧ 1 ≤ gb xs 0 ∧ gb xs 0 ≤ 4
theorem ext4 (xs : List Int) (h : 24 ≤ xs.length) (ha : AllB xs) (h0 : gb xs 3 = 0) : hb (qk xs) (qn xs) (qc xs) (ql xs) (qe xs) (qt xs) = sub xs 0 24 := by
  have a1 := (be_num4 (xs := sub xs 4 8) (by rw [sub_len _ _ _ (by omega)]) (allB_sub ha 4 8)).1
  have a2 := (be_num8 (xs := sub xs 8 16) (by rw [sub_len _ _ _ (by omega)]) (allB_sub ha 8 16)).1
  have a3 := (be_num8 (xs := sub xs 16 24) (by rw [sub_len _ _ _ (by omega)]) (allB_sub ha 16 24)).1
  unfold hb ql qe qt
  rw [a1, a2, a3]
  refine ext_gb (by simp [sub_len, show 8 ≤ xs.length by omega, show 16 ≤ xs.length by omega, h]) fun t ht => ?_
  have l1 := sub_len xs 4 8 (by omega)
  have l2 := sub_len xs 8 16 (by omega)
  have l3 := sub_len xs 16 24 (by omega)
  simp only [List.length_append, List.length_cons, List.length_nil, l1, l2, l3] at ht
  rw [sub_gb xs 0 24 t (by omega), Nat.zero_add, gb_appL]
  split
  · rename_i q
    simp at q
    match t, q with
    | 0, _ => rfl
    | 1, _ => rfl
    | 2, _ => rfl
    | 3, _ => exact h0.symm
  · rename_i q
    simp at q
    simp only [List.length_cons, List.length_nil]
    rw [gb_appL, l1]
    split
    · rw [sub_gb xs 4 8 _ (by omega)]; congr 1; omega
    · rw [gb_appL, l2]
      split
      · rw [sub_gb xs 8 16 _ (by omega)]; congr 1; omega
      · rw [sub_gb xs 16 24 _ (by omega)]; congr 1; omega
theorem hb3 (k n c l e t : Int) : gb (hb k n c l e t) 3 = 0 := rfl
/-- the numbers that the head's bytes tell -/
theorem q_hb {k n c l e t : Int} (ys : List Int) (hl : 0 ≤ l ∧ l ≤ 4294967295) (he : 0 ≤ e ∧ e ≤ 18446744073709551615) (ht : 0 ≤ t ∧ t ≤ 18446744073709551615) :
    qk (hb k n c l e t ++ ys) = k ∧ qn (hb k n c l e t ++ ys) = n ∧ qc (hb k n c l e t ++ ys) = c ∧ ql (hb k n c l e t ++ ys) = l ∧ qe (hb k n c l e t ++ ys) = e ∧ qt (hb k n c l e t ++ ys) = t := by
  have e1 : hb k n c l e t ++ ys = [k, n, c, 0] ++ (be l 4 ++ (be e 8 ++ be t 8 ++ ys)) := by simp [hb]
  have e2 : hb k n c l e t ++ ys = ([k, n, c, 0] ++ be l 4) ++ (be e 8 ++ (be t 8 ++ ys)) := by simp [hb]
  have e3 : hb k n c l e t ++ ys = ([k, n, c, 0] ++ be l 4 ++ be e 8) ++ (be t 8 ++ ys) := by simp [hb]
  refine ⟨rfl, rfl, rfl, ?_, ?_, ?_⟩
  · unfold ql; rw [e1, sub_at _ _ _ 4 8 rfl (by rw [be_len]), num_be4 l hl]
  · unfold qe; rw [e2, sub_at _ _ _ 8 16 (by simp [be_len]) (by rw [be_len]), num_be8 e he]
  · unfold qt; rw [e3, sub_at _ _ _ 16 24 (by simp [be_len]) (by rw [be_len]), num_be8 t ht]

/-- an end: head, complement, tag, mark -/
def hend (hs tag mark : List Int) : List Int := hs ++ (inv hs ++ (tag ++ mark))
theorem hend_len {hs tag mark : List Int} (h : hs.length = 24) (h1 : tag.length = 32) (h2 : mark.length = 8) : (hend hs tag mark).length = 88 := by
  simp [hend, inv_len, h, h1, h2]
theorem hend_all {hs tag mark : List Int} (h : AllB hs) (h1 : AllB tag) (h2 : AllB mark) : AllB (hend hs tag mark) := allB_app h (allB_app (inv_all hs h) (allB_app h1 h2))
theorem hend_sub {hs tag mark : List Int} (h : hs.length = 24) (h1 : tag.length = 32) : sub (hend hs tag mark) 0 24 = hs ∧ sub (hend hs tag mark) 24 48 = inv hs ∧ sub (hend hs tag mark) 48 80 = tag ∧ (hend hs tag mark).drop 80 = mark := by
  refine ⟨?_, ?_, ?_, ?_⟩
  · have : hend hs tag mark = [] ++ (hs ++ (inv hs ++ (tag ++ mark))) := rfl
    rw [this, sub_at _ _ _ 0 24 rfl (by omega)]
  · unfold hend; rw [sub_at _ _ _ 24 48 h (by rw [inv_len]; omega)]
  · have : hend hs tag mark = (hs ++ inv hs) ++ (tag ++ mark) := by simp [hend]
    rw [this, sub_at _ _ _ 48 80 (by rw [List.length_append, inv_len]; omega) (by omega)]
  · have : hend hs tag mark = (hs ++ inv hs ++ tag) ++ mark := by simp [hend]
    rw [this, List.drop_append_of_le_length (by simp [inv_len]; omega), List.drop_of_length_le (by simp [inv_len]; omega), List.nil_append]
/-- a right head's end tells it -/
theorem hend_tl {k n c l e t : Int} (h : Rh k n c) (tag mark : List Int) (h1 : tag.length = 32) : Tl (hend (hb k n c l e t) tag mark) := by
  obtain ⟨s1, s2, -, -⟩ := hend_sub (mark := mark) (hb_len k n c l e t) h1
  refine ⟨by rw [s1, s2], rfl, h.1, h.2.1⟩
/-- what the reference asks of an end -/
theorem tl_ref (xs : List Int) (hx : xs.length = 88) (ha : AllB xs) : Tl xs ↔ Rh (qk xs) (qn xs) (qc xs) ∧ hb (qk xs) (qn xs) (qc xs) (ql xs) (qe xs) (qt xs) ++ inv (hb (qk xs) (qn xs) (qc xs) (ql xs) (qe xs) (qt xs)) = sub xs 0 48 := by
  have l1 := sub_len xs 0 24 (by omega)
  have l2 := sub_len xs 24 48 (by omega)
  have e0 : sub xs 0 48 = sub xs 0 24 ++ sub xs 24 48 := by
    have z := List.take_append_drop 24 (xs.take 48)
    rw [List.take_take, show min 24 48 = 24 by omega] at z
    unfold sub
    rw [List.drop_zero, List.drop_zero]
    exact z.symm
  constructor
  · rintro ⟨h1, h2, h3, h4⟩
    have b1 := ha 1; have b2 := ha 2
    refine ⟨⟨h3, h4, b1.1, b1.2, b2.1, b2.2⟩, ?_⟩
    rw [ext4 xs (by omega) ha h2, h1, e0]
  · rintro ⟨hr, h⟩
    rw [e0] at h
    obtain ⟨h1, h2⟩ := List.append_inj h (by rw [hb_len, l1])
    refine ⟨by rw [← h1, h2], ?_, hr.1, hr.2.1⟩
    have := congrArg (fun l => gb l 3) h1
    simp only [sub_gb xs 0 24 3 (by omega)] at this
    rw [hb3] at this
    exact this.symm

/-! ### bits -/
theorem bit_xr (x t : Nat) (ht : t < 8) : bit (255 ^^^ x) t = !bit x t := by
  rw [bit_test, bit_test, Nat.testBit_xor]
  have : (255 : Nat).testBit t = true := by
    match t, ht with
    | 0, _ => rfl
    | 1, _ => rfl
    | 2, _ => rfl
    | 3, _ => rfl
    | 4, _ => rfl
    | 5, _ => rfl
    | 6, _ => rfl
    | 7, _ => rfl
  rw [this]
  cases x.testBit t <;> rfl
theorem hs_inv (xs : List Int) (i : Nat) (h : i < 8 * xs.length) : hs (inv xs) i = !hs xs i := by
  unfold hs
  rw [inv_gb xs (i / 8) (by omega)]
  unfold xr
  rw [Int.toNat_natCast]
  exact bit_xr _ _ (Nat.mod_lt _ (by omega))
theorem hs_ext {xs ys : List Int} (h : xs.length = ys.length) (hx : AllB xs) (hy : AllB ys) (hb : ∀ i, i < 8 * xs.length → hs xs i = hs ys i) : xs = ys := by
  rw [← ofb_hs ys hy (hs xs) fun i hi => hb i (by omega), ← h]
  exact (ofb_hs xs hx _ fun _ _ => rfl).symm
theorem hs_app (xs ys : List Int) (i : Nat) : hs (xs ++ ys) i = if i < 8 * xs.length then hs xs i else hs ys (i - 8 * xs.length) := by
  unfold hs
  rw [gb_appL]
  by_cases h : i < 8 * xs.length
  · rw [if_pos (by omega), if_pos h]
  · rw [if_neg (by omega), if_neg h, show (i - 8 * xs.length) / 8 = i / 8 - xs.length by omega, show (i - 8 * xs.length) % 8 = i % 8 by omega]
/-- bits that were all set, or all cleared, leave no complement but where nothing changed -/
theorem bits_whole {p y z : List Int} (hp : AllB p) (hy : AllB y) (l1 : y.length = p.length) (he : inv y = z) (hm : (∀ i, i < 8 * (2 * p.length) → hs (p ++ inv p) i = true → hs (y ++ z) i = true) ∨ (∀ i, i < 8 * (2 * p.length) → hs (y ++ z) i = true → hs (p ++ inv p) i = true)) : y = p := by
  refine hs_ext l1 hy hp fun i hi => ?_
  have a1 := hs_app p (inv p) i
  have a2 := hs_app p (inv p) (8 * p.length + i)
  have a3 := hs_app y z i
  have a4 := hs_app y z (8 * y.length + i)
  rw [if_pos (by omega)] at a1 a3
  rw [if_neg (by omega), show 8 * p.length + i - 8 * p.length = i by omega, hs_inv p i (by omega)] at a2
  rw [if_neg (by omega), show 8 * y.length + i - 8 * y.length = i by omega, ← he, hs_inv y i (by omega)] at a4
  rw [l1] at a4
  rw [he] at a4
  rcases hm with hm | hm
  · have m1 := hm i (by omega)
    have m2 := hm (8 * p.length + i) (by omega)
    rw [a1, a3] at m1
    rw [a2, a4] at m2
    cases q : hs p i <;> cases r : hs y i <;> simp [q, r] at m1 m2 ⊢
  · have m1 := hm i (by omega)
    have m2 := hm (8 * p.length + i) (by omega)
    rw [a1, a3] at m1
    rw [a2, a4] at m2
    cases q : hs p i <;> cases r : hs y i <;> simp [q, r] at m1 m2 ⊢

/-! ### a mark -/
def mark (n : Nat) : List Int := List.replicate (n - 8) 255 ++ List.replicate 8 0
theorem mark_len (n : Nat) (h : 8 ≤ n) : (mark n).length = n := by simp [mark]; omega
theorem mark_all (n : Nat) : AllB (mark n) := allB_app (allB_replicate 255 _ (by omega)) (allB_replicate 0 _ (by omega))
theorem and255 (x : Nat) (h : x < 256) : x &&& 255 = x := by
  have : (255 : Nat) = 2 ^ 8 - 1 := by decide
  rw [this, Nat.and_two_pow_sub_one_eq_mod, Nat.mod_eq_of_lt (by omega)]
theorem gb_repl (k t : Nat) (x : Int) (h : t < k) : gb (List.replicate k x) t = x := by simp [gb, List.getD, h]
/-- an end, programmed with a mark -/
theorem and_mark {n : Nat} (h : 88 ≤ n) {hs tag mk : List Int} (h0 : hs.length = 24) (h1 : tag.length = 32) (h2 : mk.length = 8) (a0 : AllB hs) (a1 : AllB tag) (a2 : AllB mk) : andl (hend hs tag mk) ((mark n).drop (n - 88)) = hend hs tag (List.replicate 8 0) := by
  have l0 := hend_len (mark := mk) h0 h1 h2
  have l1 := hend_len (mark := List.replicate 8 0) h0 h1 (by simp)
  have aa := hend_all a0 a1 a2
  refine ext_gb (by rw [andl_len, l0, l1]) fun t ht => ?_
  rw [andl_len, l0] at ht
  rw [andl_gb _ _ t (by omega), gb_drop]
  have e : hend hs tag mk = (hs ++ inv hs ++ tag) ++ mk := by simp [hend]
  have e' : hend hs tag (List.replicate 8 0) = (hs ++ inv hs ++ tag) ++ List.replicate 8 0 := by simp [hend]
  have el : (hs ++ inv hs ++ tag).length = 80 := by simp [inv_len]; omega
  have b := aa t
  unfold mark
  rw [gb_appL, List.length_replicate]
  have z1 : gb (hend hs tag (List.replicate 8 0)) t = if t < 80 then gb (hs ++ inv hs ++ tag) t else 0 := by
    rw [e', gb_appL, el]
    split
    · rfl
    · exact gb_repl _ _ _ (by omega)
  by_cases q : t < 80
  · have z2 : gb (hend hs tag mk) t = gb (hs ++ inv hs ++ tag) t := by rw [e, gb_appL, if_pos (by rw [el]; exact q)]
    rw [if_pos (by omega), gb_repl _ _ _ (by omega), show (255 : Int).toNat = 255 from rfl, and255 _ (by omega), z1, if_pos q, ← z2]
    omega
  · rw [if_neg (by omega), gb_repl _ _ _ (by omega), show (0 : Int).toNat = 0 from rfl, Nat.and_zero, z1, if_neg q]; rfl
end Go.Proofs.YtbkaecjkgjkheaaDoor.he

/- What head's isKind, isByte, numbersOf, headOf and Less, and the reference's Right answer. No claim of its own. -/
namespace Go.Proofs.YtbkaecjkgjkheaaDoor.he
open Go.RowKit Go.Proofs.YtbkaecjkgjkheaaDoor.fa
set_option maxRecDepth 20000

theorem kind_any (k : Int) (w : World) (b : Bool) (hb : b = decide (1 ≤ k ∧ k ≤ 4)) :
    Calls Tryd.prog 50 #[.int .i64 k] w fun e w' => e = .returned (.bool b) ∧ w' = w := by
  have HB : Hid (b = decide (1 ≤ k ∧ k ≤ 4)) := hb
  clear hb
  by_cases a1 : 1 ≤ k
  · have l1 : k ≥ 1 := a1
    by_cases a2 : k ≤ 4
    · go_enter Tryd.func50, Tryd.ntmps50
      go_wp2
      go_ret
      exact ⟨ret_bool (by rw [HB.out]; simp; omega), rfl⟩
    · go_enter Tryd.func50, Tryd.ntmps50
      go_wp2
      go_ret
      exact ⟨ret_bool (by rw [HB.out]; simp; omega), rfl⟩
  · have l1 : ¬ k ≥ 1 := a1
    go_enter Tryd.func50, Tryd.ntmps50
    go_wp2
    go_ret
    exact ⟨ret_bool (by rw [HB.out]; simp; omega), rfl⟩

theorem byte_any (k : Int) (w : World) (b : Bool) (hb : b = decide (0 ≤ k ∧ k ≤ 255)) :
    Calls Tryd.prog 51 #[.int .i64 k] w fun e w' => e = .returned (.bool b) ∧ w' = w := by
  have HB : Hid (b = decide (0 ≤ k ∧ k ≤ 255)) := hb
  clear hb
  by_cases a1 : 0 ≤ k
  · have l1 : k ≥ 0 := a1
    by_cases a2 : k ≤ 255
    · go_enter Tryd.func51, Tryd.ntmps51
      go_wp2
      go_ret
      exact ⟨ret_bool (by rw [HB.out]; simp; omega), rfl⟩
    · go_enter Tryd.func51, Tryd.ntmps51
      go_wp2
      go_ret
      exact ⟨ret_bool (by rw [HB.out]; simp; omega), rfl⟩
  · have l1 : ¬ k ≥ 0 := a1
    go_enter Tryd.func51, Tryd.ntmps51
    go_wp2
    go_ret
    exact ⟨ret_bool (by rw [HB.out]; simp; omega), rfl⟩

/-- numbers as cells -/
def nv (xs : List Int) : List Value := xs.map (Value.int .u64)
theorem nv_one (xs : List Int) : ∀ v ∈ nv xs, v.oneCell' = true := fun v hv' => by
  simp only [nv, List.mem_map] at hv'
  obtain ⟨x, _, rfl⟩ := hv'
  rfl

set_option maxHeartbeats 2000000 in
theorem of_any (k n c l e t : Int) (w : World) (hk : 0 ≤ k ∧ k ≤ 255) (hn : 0 ≤ n ∧ n ≤ 255) (hc : 0 ≤ c ∧ c ≤ 255) (hl : 0 ≤ l ∧ l ≤ 4294967295) :
    Calls Tryd.prog 52 #[.agg (hv k n c l e t).toArray] w fun x w' => x = .returned (.agg (nv [k, n, c, 0, l, e, t]).toArray) ∧ Below w.heap.size w w' := by
  have k1 : IntKind.u64.wrap k = k := by rw [IntKind.wrap_u64]; omega
  have k2 : IntKind.u64.wrap n = n := by rw [IntKind.wrap_u64]; omega
  have k3 : IntKind.u64.wrap c = c := by rw [IntKind.wrap_u64]; omega
  have k4 : IntKind.u64.wrap l = l := by rw [IntKind.wrap_u64]; omega
  clear hk hn hc hl
  go_enter Tryd.func52, Tryd.ntmps52
  have t0 : (0 : Nat) = 0 := rfl
  go_wp2_with (first
    | (have q2 := t2; refine store_lawC _ (nv [k, n, c, 0, l, e, t]) w1.heap.size 0 rfl rfl HV2.out.2 rowy_nums.2 (nv_one _) ?_; intro w3 E3 R3 T3 B3; have HR : Hid (w3.rangeAt w1.heap.size 0 (nv [k, n, c, 0, l, e, t])) := R3; clear t2 E3 R3 T3)
    | (have q1 := t1; refine new_lawC _ (nv [0, 0, 0, 0, 0, 0, 0]) zero_nums ?_; intro w2 V2 B2 s2; have HV2 : Hid (Vr w2 w1.heap.size (nv [0, 0, 0, 0, 0, 0, 0])) := V2; have A2 := HA.out.below B2 s1; have c0 := A2.cell 0 _ rfl; have c1 := A2.cell 1 _ rfl; have c2 := A2.cell 2 _ rfl; have c3 := A2.cell 3 _ rfl; have c4 := A2.cell 4 _ rfl; have c5 := A2.cell 5 _ rfl; clear A2 V2 t1; have t2 : (0 : Nat) = 0 := rfl)
    | (have q0 := t0; refine box_lawC _ (hv k n c l e t) rfl ?_; intro w1 V1 B1 s1; have HA : Hid (Vr w1 w.heap.size (hv k n c l e t)) := V1; clear V1 t0; have t1 : (0 : Nat) = 0 := rfl))
  refine bodyPost_ret (v := .agg (nv [k, n, c, 0, l, e, t]).toArray) (results_c rfl _ _ w1.heap.size _ rowy_nums rfl HR.out) rfl ⟨rfl, ?_⟩
  exact (B1.trans (B2.mono (by omega))).trans (B3.mono (by omega))
end Go.Proofs.YtbkaecjkgjkheaaDoor.he

/- What the reference's Right and head's Less answer. No claim of its own. -/
namespace Go.Proofs.YtbkaecjkgjkheaaDoor.he
open Go.RowKit Go.Proofs.YtbkaecjkgjkheaaDoor.fa
set_option maxRecDepth 20000

set_option maxHeartbeats 4000000 in
theorem right_any (k n c l e t : Int) (w : World) (b : Bool) (hb : b = decide (1 ≤ k ∧ k ≤ 4 ∧ 0 ≤ n ∧ n ≤ 255 ∧ 0 ≤ c ∧ c ≤ 255)) :
    Calls Tryd.prog 12 #[.agg (hv k n c l e t).toArray] w fun x w' => x = .returned (.bool b) ∧ Below w.heap.size w w' := by
  have HB : Hid (b = decide (1 ≤ k ∧ k ≤ 4 ∧ 0 ≤ n ∧ n ≤ 255 ∧ 0 ≤ c ∧ c ≤ 255)) := hb
  clear hb
  by_cases a0 : k ≥ 1
  · by_cases a1 : k ≤ 4
    · by_cases a2 : n ≥ 0
      · by_cases a3 : n ≤ 255
        · by_cases a4 : c ≥ 0
          · by_cases a5 : c ≤ 255
            · go_enter Tryd.func12, Tryd.ntmps12
              go_wp2_with (refine box_lawC _ (hv k n c l e t) rfl ?_; intro w1 V1 B1 s1; have c0 := V1.cell 0 _ rfl; have c1 := V1.cell 1 _ rfl; have c2 := V1.cell 2 _ rfl; clear V1)
              go_ret
              exact ⟨ret_bool (by rw [HB.out]; simp; omega), B1⟩
            · go_enter Tryd.func12, Tryd.ntmps12
              go_wp2_with (refine box_lawC _ (hv k n c l e t) rfl ?_; intro w1 V1 B1 s1; have c0 := V1.cell 0 _ rfl; have c1 := V1.cell 1 _ rfl; have c2 := V1.cell 2 _ rfl; clear V1)
              go_ret
              exact ⟨ret_bool (by rw [HB.out]; simp; omega), B1⟩
          · go_enter Tryd.func12, Tryd.ntmps12
            go_wp2_with (refine box_lawC _ (hv k n c l e t) rfl ?_; intro w1 V1 B1 s1; have c0 := V1.cell 0 _ rfl; have c1 := V1.cell 1 _ rfl; have c2 := V1.cell 2 _ rfl; clear V1)
            go_ret
            exact ⟨ret_bool (by rw [HB.out]; simp; omega), B1⟩
        · go_enter Tryd.func12, Tryd.ntmps12
          go_wp2_with (refine box_lawC _ (hv k n c l e t) rfl ?_; intro w1 V1 B1 s1; have c0 := V1.cell 0 _ rfl; have c1 := V1.cell 1 _ rfl; have c2 := V1.cell 2 _ rfl; clear V1)
          go_ret
          exact ⟨ret_bool (by rw [HB.out]; simp; omega), B1⟩
      · go_enter Tryd.func12, Tryd.ntmps12
        go_wp2_with (refine box_lawC _ (hv k n c l e t) rfl ?_; intro w1 V1 B1 s1; have c0 := V1.cell 0 _ rfl; have c1 := V1.cell 1 _ rfl; have c2 := V1.cell 2 _ rfl; clear V1)
        go_ret
        exact ⟨ret_bool (by rw [HB.out]; simp; omega), B1⟩
    · go_enter Tryd.func12, Tryd.ntmps12
      go_wp2_with (refine box_lawC _ (hv k n c l e t) rfl ?_; intro w1 V1 B1 s1; have c0 := V1.cell 0 _ rfl; have c1 := V1.cell 1 _ rfl; have c2 := V1.cell 2 _ rfl; clear V1)
      go_ret
      exact ⟨ret_bool (by rw [HB.out]; simp; omega), B1⟩
  · go_enter Tryd.func12, Tryd.ntmps12
    go_wp2_with (refine box_lawC _ (hv k n c l e t) rfl ?_; intro w1 V1 B1 s1; have c0 := V1.cell 0 _ rfl; have c1 := V1.cell 1 _ rfl; have c2 := V1.cell 2 _ rfl; clear V1)
    go_ret
    exact ⟨ret_bool (by rw [HB.out]; simp; omega), B1⟩
end Go.Proofs.YtbkaecjkgjkheaaDoor.he

/- What slices.Grow, slices.Concat (of two, and of four) and bytes.Clone answer. No claim of its own. -/
namespace Go.Proofs.YtbkaecjkgjkheaaDoor.he
open Go.RowKit Go.Proofs.YtbkaecjkgjkheaaDoor.fa
set_option maxRecDepth 20000

section
variable {ops : Array Oper} {rest : List Oper} {o : Oper} {a : Act} {Q : Exit → Act → World → Prop}
/-- 'append(nil, make([]byte, n)...)': room for n bytes -/
theorem zeros_law (w : World) (hg : o.guard = none) (s x : Operand) (hop : o.op = .call { callee := .builtin .append, args := #[s, x], argTypes := #[22, 3] })
    (L : Int) (n : Nat) (hs : a.eval s = .slice none 0 0) (hx : a.eval x = .int .i64 L) (hL : L = (n : Int)) (hp : 0 < n) (hn : n ≤ 1000000)
    (hK : ∀ cap w', n ≤ cap → cap ≤ 9223372036854775807 → Own w.heap.size w' (.slice (some ⟨w.heap.size, 0, none⟩) 0 cap) [] → Below w.heap.size w w' → wpList Tryd.prog ops Q rest (a.put o.dst (.slice (some ⟨w.heap.size, 0, none⟩) n cap)) w') :
    wpList Tryd.prog ops Q (o :: rest) a w := by
  refine wpList_plain hg fun K hK' => ?_
  obtain ⟨i0, hi, hz0, hz1, hz2⟩ := info_parts info_u8
  subst hL
  have hrun := Lib.run_append_nil_zeros (P := Tryd.prog) w 22 3 o.type 5 i0 (.int .u8 0) .i64 .i64 Tryd.underlying22 Tryd.underlying3 hi hz0 n hp (by rw [hz1]; decide) (by omega) (by rw [hz2]; omega)
  have hge := grownCap_ge w n 0 5
  have hcm : grownCap w n 0 5 ≤ maxLen := grownCap_le_maxLen w n 0 5 (by simp only [maxLen]; omega)
  unfold Oper.wp
  simp [execOp, hop, resolve, invoke, builtin, hs, hx, hrun, Result.andThen]
  refine hK' _ _ (hK _ _ hge (by simpa [maxLen] using hcm) ⟨by simp, .inr ⟨w.heap.size, _, _, rfl, Nat.le_refl _, heap_alloc_new w.drew _, Nat.zero_le _, hcm, ?_, by simp⟩⟩ ((Below.refl _ _).drew.alloc (Nat.le_refl _) _))
  have hz : (Value.int .u8 0).cells.size = 1 := rfl
  simp only [Array.size_append, size_zeroCells, hz]
  omega
end

set_option maxHeartbeats 1000000 in
theorem grow_any (n : Nat) (w : World) (hp : 0 < n) (hn : n ≤ 1000000) :
    Calls Tryd.prog 36 #[.slice none 0 0, .int .i64 (n : Int)] w fun e w' => ∃ v, e = .returned v ∧ Own w.heap.size w' v [] ∧ Below w.heap.size w w' := by
  have k1 : ¬ ((n : Int) < 0) := by omega
  have k2 : IntKind.i64.wrap ((n : Int) - 0) = (n : Int) := by rw [IntKind.wrap_i64]; omega
  have k3 : IntKind.i64.wrap (n : Int) = (n : Int) := by rw [IntKind.wrap_i64]; omega
  have k4 : (n : Int) > 0 := by omega
  go_enter Tryd.func36, Tryd.ntmps36
  go_wp2_with (at_builtin; refine zeros_law _ rfl (.tmp 20) (.tmp 21) rfl (n : Int) n rfl rfl rfl hp hn ?_; intro cap w1 c1 c2 o1 B1; have O1 : Hid (Own w.heap.size w1 (.slice (some ⟨w.heap.size, 0, none⟩) 0 cap) []) := o1; have c3 : (0 : Int) ≤ (cap : Int) := (by omega); clear o1)
  go_ret
  exact ⟨_, rfl, O1.out, B1⟩

/-- the first k of some lists, one behind the other -/
def cats (xss : List (List Int)) (k : Nat) : List Int := (xss.take k).flatten
theorem cats_succ (xss : List (List Int)) (k : Nat) (h : k < xss.length) : cats xss (k + 1) = cats xss k ++ xss.getD k [] := by
  unfold cats
  rw [List.take_succ_eq_append_getElem h, List.flatten_append]
  simp [List.getD, h]
theorem cats_len (xss : List (List Int)) (h : ∀ k, k < xss.length → (xss.getD k []).length ≤ 10000) (k : Nat) (hk : k ≤ xss.length) : (cats xss k).length ≤ k * 10000 := by
  induction k with
  | zero => simp [cats]
  | succ k ih =>
    rw [cats_succ xss k (by omega), List.length_append]
    have := ih (by omega)
    have := h k (by omega)
    omega

set_option linter.unusedSimpArgs false in
set_option maxHeartbeats 4000000 in
theorem concat_any (c m : Nat) (u : Nat → Value) (xss : List (List Int)) (w : World) (hm : xss.length = m) (hm8 : m ≤ 8) (hu : ∀ k, k < m → Byt w (u k) (xss.getD k [])) (hl : ∀ k, k < xss.length → (xss.getD k []).length ≤ 10000) (hp : 0 < (cats xss m).length) (hc : ∀ k, k < m → w.cell? ⟨c, k, none⟩ = some (u k)) :
    Calls Tryd.prog 21 #[.slice (some ⟨c, 0, none⟩) m m] w fun e w' => ∃ r, e = .returned r ∧ Own w.heap.size w' r (cats xss m) ∧ Below w.heap.size w w' := by
  have HG : Hid (∀ w, Calls Tryd.prog 36 #[.slice none 0 0, .int .i64 (((cats xss m).length : Nat) : Int)] w fun e w' => ∃ v, e = .returned v ∧ Own w.heap.size w' v [] ∧ Below w.heap.size w w') := fun w => grow_any _ w hp (by have := cats_len xss hl m (by omega); omega)
  have HL : Hid (∀ k, k ≤ m → (cats xss k).length ≤ 80000) := fun k hk => by have := cats_len xss hl k (by omega); omega
  have HS : Hid (∀ k, k < m → cats xss (k + 1) = cats xss k ++ xss.getD k []) := fun k hk => cats_succ xss k (by omega)
  have HU : Hid (∀ k, k < m → Byt w (u k) (xss.getD k [])) := hu
  have HX : Hid (∀ k, k < m → (xss.getD k []).length ≤ 10000) := fun k hk => hl k (by omega)
  have HC : Hid (∀ k, k < m → w.cell? ⟨c, k, none⟩ = some (u k)) := hc
  have H0 : Hid (cats xss 0 = []) := rfl
  clear hu hc hl
  obtain ⟨f, hf⟩ : ∃ f : Nat → Nat, f = fun k => (cats xss k).length := ⟨_, rfl⟩
  have HF : Hid (∀ k, (cats xss k).length = f k) := fun k => by rw [hf]
  have hfm : f m = (cats xss m).length := by rw [hf]
  rw [← hfm] at HG hp
  have F0 : Hid (f 0 = 0) := by rw [hf]; rfl
  clear hf hfm
  go_enter Tryd.func21, Tryd.ntmps21
  go_wp2
  go_loopw [11, 3] (fun i z wr => ∃ k : Nat, k ≤ m ∧ i = .int .i64 (k : Int) ∧ z = .int .i64 ((f k : Nat) : Int) ∧ wr = w) (fun i _ _ => m - (intOf i).toNat)
  case atStart => exact ⟨0, Nat.zero_le _, rfl, by rw [F0.out]; rfl, rfl⟩
  case round =>
    obtain ⟨k, hk, rfl, rfl, rfl⟩ := hrel
    by_cases hlt : k < m
    · have cc := HC.out k hlt
      have yy := HU.out k hlt
      have lx := HX.out k hlt
      have e1 : f (k + 1) = f k + (xss.getD k []).length := by rw [← HF.out, ← HF.out, HS.out k hlt, List.length_append]
      have l1 : f k ≤ 80000 := by rw [← HF.out]; exact HL.out k hk
      generalize xss.getD k [] = ys at yy lx e1
      obtain ⟨uo, uc, hue, -⟩ := yy
      rw [hue] at cc
      generalize ys.length = a at *
      generalize f k = z at *
      have FK : Hid (f (k + 1) = z + a) := e1
      clear e1 hue
      have q1 : IntKind.i64.wrap ((z : Int) + (a : Int)) = (z : Int) + (a : Int) := by rw [IntKind.wrap_i64]; omega
      have q2 : ¬ ((z : Int) + (a : Int) < 0) := by omega
      go_wp2
      go_roundw
      case rel => exact ⟨k + 1, by omega, by go_num, by rw [FK.out]; rfl, trivial⟩
      case measure => simp [intOf]; omega
    · have hks : k = m := by omega
      subst hks
      obtain ⟨wa, rfl⟩ : ∃ wx, wx = wr := ⟨_, rfl⟩
      go_wp2_with (go_at_call 36; refine (HG.out _).mono ?_; rintro e w1 ⟨v1, rfl, o1, B1⟩; have O1 : Hid (Own wa.heap.size w1 v1 []) := o1; clear o1)
      go_loopw [27, 6] (fun i o wx => ∃ j : Nat, j ≤ k ∧ i = .int .i64 (j : Int) ∧ Own wa.heap.size wx o (cats xss j) ∧ Below wa.heap.size wa wx) (fun i _ _ => k - (intOf i).toNat)
      case atStart => exact ⟨0, Nat.zero_le _, rfl, O1.out, B1⟩
      case round =>
        clear B1 O1
        obtain ⟨j, hj, rfl, o2, B2⟩ := hrel
        by_cases hlj : j < k
        · have cc : wr.cell? ⟨c, j, none⟩ = some (u j) := (B2.cell (World.block_lt_of_cell? _ _ (HC.out j hlj))).trans (HC.out j hlj)
          have yy := (HU.out j hlj).below B2
          have lx := HX.out j hlj
          have lc := HL.out j hj
          have e1 := HS.out j hlj
          generalize xss.getD j [] = ys at yy lx e1
          have YY : Hid (Byt wr (u j) ys) := yy
          have O2 : Hid (Own wa.heap.size wr u6 (cats xss j)) := o2
          have E1 : Hid (cats xss (j + 1) = cats xss j ++ ys) := e1
          have z2 := B2.size
          have LL : Hid (ys.length ≤ 10000 ∧ (cats xss j).length ≤ 80000) := ⟨lx, lc⟩
          generalize u j = uj at *
          clear o2 yy e1 lx lc
          go_wp2_with (at_builtin; refine pushs_law _ rfl (.tmp 31) (.tmp 32) rfl wa.heap.size z2 _ _ (cats xss j) ys rfl rfl O2.out YY.out (by have := LL.out; omega) ?_; intro v3 w3 o3 B3; have O3 : Hid (Own wa.heap.size w3 v3 (cats xss j ++ ys)) := o3; clear o3)
          go_roundw
          case rel => exact ⟨j + 1, by omega, by go_num, by rw [E1.out]; exact O3.out, B2.trans B3⟩
          case measure => simp [intOf]; omega
        · have hjs : j = k := by omega
          subst hjs
          go_wp2
          go_ret
          exact ⟨_, rfl, o2, B2⟩
end Go.Proofs.YtbkaecjkgjkheaaDoor.he

/- What head's Bytes answers. No claim of its own. -/
namespace Go.Proofs.YtbkaecjkgjkheaaDoor.he
open Go.RowKit Go.Proofs.YtbkaecjkgjkheaaDoor.fa
set_option maxRecDepth 20000

/-- 'make([]byte, 0, n)' -/
theorem room_law {ops : Array Oper} {rest : List Oper} {o : Oper} {a : Act} {Q : Exit → Act → World → Prop} (w : World) (hg : o.guard = none) (l c : Operand) (hop : o.op = Op.makeSlice 22 l c) (B : Nat) (hB : B ≤ w.heap.size)
    (n : Nat) (hl : a.eval l = .int .i64 0) (hc : a.eval c = .int .i64 (n : Int)) (hn : n ≤ 1099511627776)
    (hK : ∀ w', Own B w' (.slice (some ⟨w.heap.size, 0, none⟩) 0 n) [] → Below B w w' → w.heap.size < w'.heap.size → wpList Tryd.prog ops Q rest (a.put o.dst (.slice (some ⟨w.heap.size, 0, none⟩) 0 n)) w') :
    wpList Tryd.prog ops Q (o :: rest) a w := by
  obtain ⟨i0, hi, hz0, hz1, hz2⟩ := info_parts info_u8
  refine wpList_make_own w hg l c 22 hop B 5 i0 (.int .u8 0) 1 Tryd.underlying22 hi hz0 hz1 .i64 .i64 (n : Int) n hl hc rfl (by rw [hz2]; omega) (by simp only [maxLen]; omega) hB fun w' h1 h2 => ?_
  exact hK w' h1 ((Below.refl B w).grown h2 hB (fun k hk => by cases hk)) (h1.lt w.heap.size rfl).2

theorem own_low {B : Nat} {w w' : World} {v : Value} {xs : List Int} (h : Own B w v xs) (hb : Below w.heap.size w w') : Own B w' v xs := World.ownsRow.kept h ⟨hb.os, hb.tape, hb.output, hb.size, fun j hj _ => hb.block j hj⟩ (by cases hv : v.ownBlock <;> simp) (row := none)
theorem own_less {w : World} {B B' : Nat} {v : Value} {xs : List Int} (h : Own B w v xs) (hB : B' ≤ B) : Own B' w v xs := by
  obtain ⟨a1, a2⟩ := h
  refine ⟨a1, ?_⟩
  rcases a2 with e1 | ⟨g', c', u', e1, e2, e3⟩
  · exact Or.inl e1
  · exact Or.inr ⟨g', c', u', e1, by omega, e3⟩
/-- the seven numbers' bytes -/
def prts (k n c l e t : Int) : List (List Int) := [[k], [n], [c], [0], be l 4, be e 8, be t 8]
theorem prts_hb (k n c l e t : Int) : cats (prts k n c l e t) 7 = hb k n c l e t := by simp [cats, prts, hb]
theorem be1 (x : Int) (h : 0 ≤ x ∧ x ≤ 255) : (le x (clamp 1 8)).reverse = [x] := by
  show [x % 256] = [x]
  rw [Int.emod_eq_of_lt h.1 (by omega)]
theorem clamp48 : clamp 4 8 = 4 ∧ clamp 8 8 = 8 ∧ clamp 1 8 = 1 := by decide

set_option maxHeartbeats 2000000 in
theorem hbytes_no (k n c l e t : Int) (w : World) (h : ¬ Rh k n c) :
    Calls Tryd.prog 31 #[.agg (hv k n c l e t).toArray] w fun x w' => x = .returned (.tuple #[.slice none 0 0, .int .i64 2]) ∧ Below w.heap.size w w' := by
  have t0 : (0 : Nat) = 0 := rfl
  by_cases h1 : 1 ≤ k ∧ k ≤ 4
  · have K1 : Hid (true = decide (1 ≤ k ∧ k ≤ 4)) := by show _ = _; simp; omega
    by_cases h2 : 0 ≤ n ∧ n ≤ 255
    · have K2 : Hid (true = decide (0 ≤ n ∧ n ≤ 255)) := by show _ = _; simp; omega
      have K3 : Hid (false = decide (0 ≤ c ∧ c ≤ 255)) := by
        show _ = _
        have h3 : ¬ (0 ≤ c ∧ c ≤ 255) := fun q => h ⟨h1.1, h1.2, h2.1, h2.2, q.1, q.2⟩
        simp; omega
      clear h h1 h2
      go_enter Tryd.func31, Tryd.ntmps31
      go_wp2_with (first
        | (have q3 := t3; go_at_call 51; refine (byte_any c _ false K3.out).mono ?_; rintro e9 w9 ⟨rfl, hw⟩; obtain rfl := hw.symm; clear t3; have t4 : (0 : Nat) = 0 := rfl)
        | (have q2 := t2; go_at_call 51; refine (byte_any n _ true K2.out).mono ?_; rintro e9 w9 ⟨rfl, hw⟩; obtain rfl := hw.symm; clear t2; have t3 : (0 : Nat) = 0 := rfl)
        | (have q1 := t1; go_at_call 50; refine (kind_any k _ true K1.out).mono ?_; rintro e9 w9 ⟨rfl, hw⟩; obtain rfl := hw.symm; clear t1; have t2 : (0 : Nat) = 0 := rfl)
        | (have q0 := t0; refine box_lawC _ (hv k n c l e t) rfl ?_; intro w1 V1 B1 s1; have c0 := V1.cell 0 _ rfl; have c1 := V1.cell 1 _ rfl; have c2 := V1.cell 2 _ rfl; have HV : Hid (Vr w1 w.heap.size (hv k n c l e t)) := V1; clear V1 t0; have t1 : (0 : Nat) = 0 := rfl))
      go_ret2
      exact ⟨rfl, B1⟩
    · have K2 : Hid (false = decide (0 ≤ n ∧ n ≤ 255)) := by show _ = _; simp; omega
      clear h h1 h2
      go_enter Tryd.func31, Tryd.ntmps31
      go_wp2_with (first
        | (have q2 := t2; go_at_call 51; refine (byte_any n _ false K2.out).mono ?_; rintro e9 w9 ⟨rfl, hw⟩; obtain rfl := hw.symm; clear t2; have t3 : (0 : Nat) = 0 := rfl)
        | (have q1 := t1; go_at_call 50; refine (kind_any k _ true K1.out).mono ?_; rintro e9 w9 ⟨rfl, hw⟩; obtain rfl := hw.symm; clear t1; have t2 : (0 : Nat) = 0 := rfl)
        | (have q0 := t0; refine box_lawC _ (hv k n c l e t) rfl ?_; intro w1 V1 B1 s1; have c0 := V1.cell 0 _ rfl; have c1 := V1.cell 1 _ rfl; have c2 := V1.cell 2 _ rfl; have HV : Hid (Vr w1 w.heap.size (hv k n c l e t)) := V1; clear V1 t0; have t1 : (0 : Nat) = 0 := rfl))
      go_ret2
      exact ⟨rfl, B1⟩
  · have K1 : Hid (false = decide (1 ≤ k ∧ k ≤ 4)) := by show _ = _; simp; omega
    clear h h1
    go_enter Tryd.func31, Tryd.ntmps31
    go_wp2_with (first
      | (have q1 := t1; go_at_call 50; refine (kind_any k _ false K1.out).mono ?_; rintro e9 w9 ⟨rfl, hw⟩; obtain rfl := hw.symm; clear t1; have t2 : (0 : Nat) = 0 := rfl)
      | (have q0 := t0; refine box_lawC _ (hv k n c l e t) rfl ?_; intro w1 V1 B1 s1; have c0 := V1.cell 0 _ rfl; have c1 := V1.cell 1 _ rfl; have c2 := V1.cell 2 _ rfl; have HV : Hid (Vr w1 w.heap.size (hv k n c l e t)) := V1; clear V1 t0; have t1 : (0 : Nat) = 0 := rfl))
    go_ret2
    exact ⟨rfl, B1⟩

set_option maxHeartbeats 8000000 in
theorem hbytes_yes (k n c l e t : Int) (w : World) (h : Rh k n c) (hl : 0 ≤ l ∧ l ≤ 4294967295) (he : 0 ≤ e ∧ e ≤ 18446744073709551615) (ht : 0 ≤ t ∧ t ≤ 18446744073709551615) (hT : Tab w) :
    Calls Tryd.prog 31 #[.agg (hv k n c l e t).toArray] w fun x w' => ∃ v, x = .returned (.tuple #[v, .int .i64 0]) ∧ Own w.heap.size w' v (hb k n c l e t) ∧ Below w.heap.size w w' := by
  have t0 : (0 : Nat) = 0 := rfl
  obtain ⟨r1, r2, r3, r4, r5, r6⟩ := h
  have K1 : Hid (true = decide (1 ≤ k ∧ k ≤ 4)) := by show _ = _; simp; omega
  have K2 : Hid (true = decide (0 ≤ n ∧ n ≤ 255)) := by show _ = _; simp; omega
  have K3 : Hid (true = decide (0 ≤ c ∧ c ≤ 255)) := by show _ = _; simp; omega
  have SO : Hid (∀ w, Calls Tryd.prog 52 #[.agg (hv k n c l e t).toArray] w fun x w' => x = .returned (.agg #[.int .u64 k, .int .u64 n, .int .u64 c, .int .u64 0, .int .u64 l, .int .u64 e, .int .u64 t]) ∧ Below w.heap.size w w') := fun w => of_any k n c l e t w (by omega) (by omega) (by omega) hl
  have SK : Hid (∀ x, 0 ≤ x ∧ x ≤ 255 → ∀ w, Calls Tryd.prog 22 #[.int .u64 x, .int .i64 1] w fun e w' => ∃ v, e = .returned v ∧ Byt w' v [x] ∧ Below w.heap.size w w') := fun x hx w => by
    have := big_any x 1 w (by omega)
    rw [be1 x hx] at this
    exact this
  have S4 : Hid (∀ w, Calls Tryd.prog 22 #[.int .u64 l, .int .i64 4] w fun e w' => ∃ v, e = .returned v ∧ Byt w' v (be l 4) ∧ Below w.heap.size w w') := fun w => by
    have := big_any l 4 w (by omega)
    rw [clamp48.1] at this
    exact this
  have S8 : Hid (∀ x, 0 ≤ x ∧ x ≤ 18446744073709551615 → ∀ w, Calls Tryd.prog 22 #[.int .u64 x, .int .i64 8] w fun e w' => ∃ v, e = .returned v ∧ Byt w' v (be x 8) ∧ Below w.heap.size w w') := fun x hx w => by
    have := big_any x 8 w hx
    rw [clamp48.2.1] at this
    exact this
  have HE : Hid (cats (prts k n c l e t) 7 = hb k n c l e t) := prts_hb k n c l e t
  have HP : Hid ((0 ≤ k ∧ k ≤ 255) ∧ (0 ≤ n ∧ n ≤ 255) ∧ (0 ≤ c ∧ c ≤ 255)) := ⟨by omega, by omega, by omega⟩
  have H8 : Hid ((0 ≤ e ∧ e ≤ 18446744073709551615) ∧ (0 ≤ t ∧ t ≤ 18446744073709551615)) := ⟨he, ht⟩
  have HT : Hid (Tab w) := hT
  have HS : Hid (∀ j, j < 7 → cats (prts k n c l e t) (j + 1) = cats (prts k n c l e t) j ++ (prts k n c l e t).getD j []) := fun j hj => cats_succ _ j hj
  have HLN : Hid (∀ j, j ≤ 7 → (cats (prts k n c l e t) j).length ≤ 80000) := fun j hj => by
    have := cats_len (prts k n c l e t) (fun i hi => by
      have hi : i < 7 := hi
      match i, hi with
      | 0, _ => simp [prts]
      | 1, _ => simp [prts]
      | 2, _ => simp [prts]
      | 3, _ => simp [prts]
      | 4, _ => simp [prts, be_len]
      | 5, _ => simp [prts, be_len]
      | 6, _ => simp [prts, be_len]) j hj
    omega
  generalize hP : cats (prts k n c l e t) = P at *
  have H0 : Hid (P 0 = []) := by rw [← hP]; rfl
  generalize hb k n c l e t = Z at *
  clear r1 r2 r3 r4 r5 r6 hl he ht hT hP
  go_enter Tryd.func31, Tryd.ntmps31
  go_wp2_with (first
    | (have q6 := t6; go_at_call 52; refine (SO.out _).mono ?_; rintro e9 w3 ⟨rfl, B3⟩; have O3 : Hid (Own w.heap.size w3 (.slice (some ⟨w1.heap.size, 0, none⟩) 0 24) []) := own_low O2.out B3; have C3 : Hid (Below w.heap.size w w3) := C2.out.trans (B3.mono C2.out.size); clear B3 t6 c0 c1 c2 c3 c4 c5)
    | (have q4 := t4; at_make; refine room_law _ rfl _ _ rfl w1.heap.size (Nat.le_refl _) 24 rfl rfl (by omega) ?_; intro w2 o2 B2 s2; have O2 : Hid (Own w.heap.size w2 (.slice (some ⟨w1.heap.size, 0, none⟩) 0 24) []) := own_less o2 (by omega); have A2 := HV.out.below B2 s1; have c0 := A2.cell 0 _ rfl; have c1 := A2.cell 1 _ rfl; have c2 := A2.cell 2 _ rfl; have c3 := A2.cell 3 _ rfl; have c4 := A2.cell 4 _ rfl; have c5 := A2.cell 5 _ rfl; have C2 : Hid (Below w.heap.size w w2) := B1.trans (B2.mono (by omega)); clear A2 o2 B2 t4; have t6 : (0 : Nat) = 0 := rfl)
    | (have q3 := t3; go_at_call 51; refine (byte_any c _ true K3.out).mono ?_; rintro e9 w9 ⟨rfl, hw⟩; obtain rfl := hw.symm; clear t3; have t4 : (0 : Nat) = 0 := rfl)
    | (have q2 := t2; go_at_call 51; refine (byte_any n _ true K2.out).mono ?_; rintro e9 w9 ⟨rfl, hw⟩; obtain rfl := hw.symm; clear t2; have t3 : (0 : Nat) = 0 := rfl)
    | (have q1 := t1; go_at_call 50; refine (kind_any k _ true K1.out).mono ?_; rintro e9 w9 ⟨rfl, hw⟩; obtain rfl := hw.symm; clear t1; have t2 : (0 : Nat) = 0 := rfl)
    | (have q0 := t0; refine box_lawC _ (hv k n c l e t) rfl ?_; intro w1 V1 B1 s1; have c0 := V1.cell 0 _ rfl; have c1 := V1.cell 1 _ rfl; have c2 := V1.cell 2 _ rfl; have HV : Hid (Vr w1 w.heap.size (hv k n c l e t)) := V1; clear V1 t0; have t1 : (0 : Nat) = 0 := rfl))
  go_loopw [26, 4] (fun i o wr => ((i = .int .i64 0 ∧ Own w.heap.size wr o (P 0)) ∨ (i = .int .i64 1 ∧ Own w.heap.size wr o (P 1)) ∨ (i = .int .i64 2 ∧ Own w.heap.size wr o (P 2)) ∨ (i = .int .i64 3 ∧ Own w.heap.size wr o (P 3)) ∨ (i = .int .i64 4 ∧ Own w.heap.size wr o (P 4)) ∨ (i = .int .i64 5 ∧ Own w.heap.size wr o (P 5)) ∨ (i = .int .i64 6 ∧ Own w.heap.size wr o (P 6)) ∨ (i = .int .i64 7 ∧ Own w.heap.size wr o (P 7))) ∧ Below w.heap.size w wr) (fun i _ _ => 7 - (intOf i).toNat)
  case atStart => exact ⟨.inl ⟨rfl, by rw [H0.out]; exact O3.out⟩, C3.out⟩
  case round =>
    clear O2 O3 C2 C3
    obtain ⟨hrel, b4⟩ := hrel
    have C4 : Hid (Below w.heap.size w wr) := b4
    have z4 := b4.size
    have TT : Hid (Tab wr) := HT.out.below b4
    clear b4
    obtain ⟨rfl, o4⟩ | ⟨rfl, o4⟩ | ⟨rfl, o4⟩ | ⟨rfl, o4⟩ | ⟨rfl, o4⟩ | ⟨rfl, o4⟩ | ⟨rfl, o4⟩ | ⟨rfl, o4⟩ := hrel
    · have hcell : wr.cell? ⟨0, 0, none⟩ = some (.int .i64 1) := TT.out 0 (by omega)
      have E1 : Hid (P 1 = P 0 ++ [k]) := HS.out 0 (by omega)
      have L1 : Hid ((P 0).length ≤ 80000) := HLN.out 0 (by omega)
      have LB : Hid (([k]).length ≤ 8) := by show _ ≤ _; simp
      have O4 : Hid (Own w.heap.size wr u4 (P 0)) := o4
      clear o4
      have u0 : (0 : Nat) = 0 := rfl
      go_wp2_with (first
        | (have q := u0; refine idx_law _ rfl (.tmp 25) (.tmp 26) 88 rfl _ _ (.int .u64 k) rfl rfl (by kernel_rfl) ?_; clear u0)
        | (at_builtin; refine pushs_law _ rfl (.tmp 30) (.tmp 35) rfl w.heap.size z5 _ _ (P 0) ([k]) rfl rfl O5.out Y5.out (by have := L1.out; have := LB.out; omega) ?_; intro v6 w6 o6 B6; have O6 : Hid (Own w.heap.size w6 v6 (P 0 ++ [k])) := o6; clear o6)
        | (go_at_call 22; refine (SK.out _ HP.out.1 _).mono ?_; rintro e9 w5 ⟨v5, rfl, y5, B5⟩; have Y5 : Hid (Byt w5 v5 ([k])) := y5; have O5 : Hid (Own w.heap.size w5 u4 (P 0)) := own_low O4.out B5; have C5 : Hid (Below w.heap.size w w5) := C4.out.trans (B5.mono z4); have z5 := C5.out.size; clear y5 B5))
      go_roundw
      case rel => exact ⟨.inr (.inl ⟨rfl, by rw [E1.out]; exact O6.out⟩), C5.out.trans B6⟩
      case measure => simp [intOf]
    · have hcell : wr.cell? ⟨0, 1, none⟩ = some (.int .i64 1) := TT.out 1 (by omega)
      have E1 : Hid (P 2 = P 1 ++ [n]) := HS.out 1 (by omega)
      have L1 : Hid ((P 1).length ≤ 80000) := HLN.out 1 (by omega)
      have LB : Hid (([n]).length ≤ 8) := by show _ ≤ _; simp
      have O4 : Hid (Own w.heap.size wr u4 (P 1)) := o4
      clear o4
      have u0 : (0 : Nat) = 0 := rfl
      go_wp2_with (first
        | (have q := u0; refine idx_law _ rfl (.tmp 25) (.tmp 26) 88 rfl _ _ (.int .u64 n) rfl rfl (by kernel_rfl) ?_; clear u0)
        | (at_builtin; refine pushs_law _ rfl (.tmp 30) (.tmp 35) rfl w.heap.size z5 _ _ (P 1) ([n]) rfl rfl O5.out Y5.out (by have := L1.out; have := LB.out; omega) ?_; intro v6 w6 o6 B6; have O6 : Hid (Own w.heap.size w6 v6 (P 1 ++ [n])) := o6; clear o6)
        | (go_at_call 22; refine (SK.out _ HP.out.2.1 _).mono ?_; rintro e9 w5 ⟨v5, rfl, y5, B5⟩; have Y5 : Hid (Byt w5 v5 ([n])) := y5; have O5 : Hid (Own w.heap.size w5 u4 (P 1)) := own_low O4.out B5; have C5 : Hid (Below w.heap.size w w5) := C4.out.trans (B5.mono z4); have z5 := C5.out.size; clear y5 B5))
      go_roundw
      case rel => exact ⟨.inr (.inr (.inl ⟨rfl, by rw [E1.out]; exact O6.out⟩)), C5.out.trans B6⟩
      case measure => simp [intOf]
    · have hcell : wr.cell? ⟨0, 2, none⟩ = some (.int .i64 1) := TT.out 2 (by omega)
      have E1 : Hid (P 3 = P 2 ++ [c]) := HS.out 2 (by omega)
      have L1 : Hid ((P 2).length ≤ 80000) := HLN.out 2 (by omega)
      have LB : Hid (([c]).length ≤ 8) := by show _ ≤ _; simp
      have O4 : Hid (Own w.heap.size wr u4 (P 2)) := o4
      clear o4
      have u0 : (0 : Nat) = 0 := rfl
      go_wp2_with (first
        | (have q := u0; refine idx_law _ rfl (.tmp 25) (.tmp 26) 88 rfl _ _ (.int .u64 c) rfl rfl (by kernel_rfl) ?_; clear u0)
        | (at_builtin; refine pushs_law _ rfl (.tmp 30) (.tmp 35) rfl w.heap.size z5 _ _ (P 2) ([c]) rfl rfl O5.out Y5.out (by have := L1.out; have := LB.out; omega) ?_; intro v6 w6 o6 B6; have O6 : Hid (Own w.heap.size w6 v6 (P 2 ++ [c])) := o6; clear o6)
        | (go_at_call 22; refine (SK.out _ HP.out.2.2 _).mono ?_; rintro e9 w5 ⟨v5, rfl, y5, B5⟩; have Y5 : Hid (Byt w5 v5 ([c])) := y5; have O5 : Hid (Own w.heap.size w5 u4 (P 2)) := own_low O4.out B5; have C5 : Hid (Below w.heap.size w w5) := C4.out.trans (B5.mono z4); have z5 := C5.out.size; clear y5 B5))
      go_roundw
      case rel => exact ⟨.inr (.inr (.inr (.inl ⟨rfl, by rw [E1.out]; exact O6.out⟩))), C5.out.trans B6⟩
      case measure => simp [intOf]
    · have hcell : wr.cell? ⟨0, 3, none⟩ = some (.int .i64 1) := TT.out 3 (by omega)
      have E1 : Hid (P 4 = P 3 ++ [0]) := HS.out 3 (by omega)
      have L1 : Hid ((P 3).length ≤ 80000) := HLN.out 3 (by omega)
      have LB : Hid (([0]).length ≤ 8) := by show _ ≤ _; simp
      have O4 : Hid (Own w.heap.size wr u4 (P 3)) := o4
      clear o4
      have u0 : (0 : Nat) = 0 := rfl
      go_wp2_with (first
        | (have q := u0; refine idx_law _ rfl (.tmp 25) (.tmp 26) 88 rfl _ _ (.int .u64 0) rfl rfl (by kernel_rfl) ?_; clear u0)
        | (at_builtin; refine pushs_law _ rfl (.tmp 30) (.tmp 35) rfl w.heap.size z5 _ _ (P 3) ([0]) rfl rfl O5.out Y5.out (by have := L1.out; have := LB.out; omega) ?_; intro v6 w6 o6 B6; have O6 : Hid (Own w.heap.size w6 v6 (P 3 ++ [0])) := o6; clear o6)
        | (go_at_call 22; refine (SK.out 0 (by omega) _).mono ?_; rintro e9 w5 ⟨v5, rfl, y5, B5⟩; have Y5 : Hid (Byt w5 v5 ([0])) := y5; have O5 : Hid (Own w.heap.size w5 u4 (P 3)) := own_low O4.out B5; have C5 : Hid (Below w.heap.size w w5) := C4.out.trans (B5.mono z4); have z5 := C5.out.size; clear y5 B5))
      go_roundw
      case rel => exact ⟨.inr (.inr (.inr (.inr (.inl ⟨rfl, by rw [E1.out]; exact O6.out⟩)))), C5.out.trans B6⟩
      case measure => simp [intOf]
    · have hcell : wr.cell? ⟨0, 4, none⟩ = some (.int .i64 4) := TT.out 4 (by omega)
      have E1 : Hid (P 5 = P 4 ++ be l 4) := HS.out 4 (by omega)
      have L1 : Hid ((P 4).length ≤ 80000) := HLN.out 4 (by omega)
      have LB : Hid ((be l 4).length ≤ 8) := by show _ ≤ _; simp [be_len]
      have O4 : Hid (Own w.heap.size wr u4 (P 4)) := o4
      clear o4
      have u0 : (0 : Nat) = 0 := rfl
      go_wp2_with (first
        | (have q := u0; refine idx_law _ rfl (.tmp 25) (.tmp 26) 88 rfl _ _ (.int .u64 l) rfl rfl (by kernel_rfl) ?_; clear u0)
        | (at_builtin; refine pushs_law _ rfl (.tmp 30) (.tmp 35) rfl w.heap.size z5 _ _ (P 4) (be l 4) rfl rfl O5.out Y5.out (by have := L1.out; have := LB.out; omega) ?_; intro v6 w6 o6 B6; have O6 : Hid (Own w.heap.size w6 v6 (P 4 ++ be l 4)) := o6; clear o6)
        | (go_at_call 22; refine (S4.out _).mono ?_; rintro e9 w5 ⟨v5, rfl, y5, B5⟩; have Y5 : Hid (Byt w5 v5 (be l 4)) := y5; have O5 : Hid (Own w.heap.size w5 u4 (P 4)) := own_low O4.out B5; have C5 : Hid (Below w.heap.size w w5) := C4.out.trans (B5.mono z4); have z5 := C5.out.size; clear y5 B5))
      go_roundw
      case rel => exact ⟨.inr (.inr (.inr (.inr (.inr (.inl ⟨rfl, by rw [E1.out]; exact O6.out⟩))))), C5.out.trans B6⟩
      case measure => simp [intOf]
    · have hcell : wr.cell? ⟨0, 5, none⟩ = some (.int .i64 8) := TT.out 5 (by omega)
      have E1 : Hid (P 6 = P 5 ++ be e 8) := HS.out 5 (by omega)
      have L1 : Hid ((P 5).length ≤ 80000) := HLN.out 5 (by omega)
      have LB : Hid ((be e 8).length ≤ 8) := by show _ ≤ _; simp [be_len]
      have O4 : Hid (Own w.heap.size wr u4 (P 5)) := o4
      clear o4
      have u0 : (0 : Nat) = 0 := rfl
      go_wp2_with (first
        | (have q := u0; refine idx_law _ rfl (.tmp 25) (.tmp 26) 88 rfl _ _ (.int .u64 e) rfl rfl (by kernel_rfl) ?_; clear u0)
        | (at_builtin; refine pushs_law _ rfl (.tmp 30) (.tmp 35) rfl w.heap.size z5 _ _ (P 5) (be e 8) rfl rfl O5.out Y5.out (by have := L1.out; have := LB.out; omega) ?_; intro v6 w6 o6 B6; have O6 : Hid (Own w.heap.size w6 v6 (P 5 ++ be e 8)) := o6; clear o6)
        | (go_at_call 22; refine (S8.out _ H8.out.1 _).mono ?_; rintro e9 w5 ⟨v5, rfl, y5, B5⟩; have Y5 : Hid (Byt w5 v5 (be e 8)) := y5; have O5 : Hid (Own w.heap.size w5 u4 (P 5)) := own_low O4.out B5; have C5 : Hid (Below w.heap.size w w5) := C4.out.trans (B5.mono z4); have z5 := C5.out.size; clear y5 B5))
      go_roundw
      case rel => exact ⟨.inr (.inr (.inr (.inr (.inr (.inr (.inl ⟨rfl, by rw [E1.out]; exact O6.out⟩)))))), C5.out.trans B6⟩
      case measure => simp [intOf]
    · have hcell : wr.cell? ⟨0, 6, none⟩ = some (.int .i64 8) := TT.out 6 (by omega)
      have E1 : Hid (P 7 = P 6 ++ be t 8) := HS.out 6 (by omega)
      have L1 : Hid ((P 6).length ≤ 80000) := HLN.out 6 (by omega)
      have LB : Hid ((be t 8).length ≤ 8) := by show _ ≤ _; simp [be_len]
      have O4 : Hid (Own w.heap.size wr u4 (P 6)) := o4
      clear o4
      have u0 : (0 : Nat) = 0 := rfl
      go_wp2_with (first
        | (have q := u0; refine idx_law _ rfl (.tmp 25) (.tmp 26) 88 rfl _ _ (.int .u64 t) rfl rfl (by kernel_rfl) ?_; clear u0)
        | (at_builtin; refine pushs_law _ rfl (.tmp 30) (.tmp 35) rfl w.heap.size z5 _ _ (P 6) (be t 8) rfl rfl O5.out Y5.out (by have := L1.out; have := LB.out; omega) ?_; intro v6 w6 o6 B6; have O6 : Hid (Own w.heap.size w6 v6 (P 6 ++ be t 8)) := o6; clear o6)
        | (go_at_call 22; refine (S8.out _ H8.out.2 _).mono ?_; rintro e9 w5 ⟨v5, rfl, y5, B5⟩; have Y5 : Hid (Byt w5 v5 (be t 8)) := y5; have O5 : Hid (Own w.heap.size w5 u4 (P 6)) := own_low O4.out B5; have C5 : Hid (Below w.heap.size w w5) := C4.out.trans (B5.mono z4); have z5 := C5.out.size; clear y5 B5))
      go_roundw
      case rel => exact ⟨.inr (.inr (.inr (.inr (.inr (.inr (.inr (⟨rfl, by rw [E1.out]; exact O6.out⟩))))))), C5.out.trans B6⟩
      case measure => simp [intOf]
    · have O4 : Hid (Own w.heap.size wr u4 (P 7)) := o4
      rw [HE.out] at O4
      clear o4
      go_wp2
      go_ret2
      exact ⟨_, rfl, O4.out, C4.out⟩
end Go.Proofs.YtbkaecjkgjkheaaDoor.he

/- What head's numbersIn answers. No claim of its own. -/
namespace Go.Proofs.YtbkaecjkgjkheaaDoor.he
open Go.RowKit Go.Proofs.YtbkaecjkgjkheaaDoor.fa
set_option maxRecDepth 20000

/-- a struct, or an array, is read -/
theorem load_lawC {ops : Array Oper} {rest : List Oper} {a : Act} {Q : Exit → Act → World → Prop} {d : Option Tmp} {x : Operand} {t ty : TypeId} {pos : String} {af : Array Edge} {gd : Option (Nat × Bool)} (w : World) (hw : Region.wanted ⟨d, Op.load t x, ty, pos, af, gd⟩ (yielded ops a.tmps) = true) (cs : List Value) (b p : Nat) (hx : a.eval x = .pointer (some ⟨b, p, none⟩)) (h : w.rangeAt b p cs) (ht : Rowy t cs.length)
    (hK : wpList Tryd.prog ops Q rest (a.put d (.agg cs.toArray)) w) : wpList Tryd.prog ops Q (⟨d, Op.load t x, ty, pos, af, gd⟩ :: rest) a w := by
  refine wpList_step fun K hK' => ?_
  rw [if_pos hw]
  unfold Oper.wp execOp
  simp only [hx, Sem.run_bind, Result.andThen_ok, load_cells ht h]
  exact hK' _ _ hK
theorem num_one (xs : List Int) (i : Nat) (h : i < xs.length) (ha : AllB xs) : num (last8 (sub xs i (i + 1))) = gb xs i := by
  have l := sub_len xs i (i + 1) (by omega)
  have g := sub_gb xs i (i + 1) 0 (by omega)
  have b := ha i
  generalize sub xs i (i + 1) = ys at *
  match ys, l with
  | [y], _ =>
    have : y = gb xs i := g
    subst this
    show (0 * 256) % 18446744073709551616 + gb xs i = gb xs i
    omega
  | [], l => simp at l
  | _ :: _ :: _, l => simp at l
end Go.Proofs.YtbkaecjkgjkheaaDoor.he

