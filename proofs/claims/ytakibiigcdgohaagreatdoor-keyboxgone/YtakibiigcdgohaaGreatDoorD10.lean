/- Parts of the proof: what KeyboxGone reaches. No claim of its own. -/
import Derived.WalkKit
import Derived.Deep.QuietTactic
import Derived.Laws.AppendOwnNone
import Derived.Deep.RegionHeld3
import Derived.Deep.WholeRow
import Derived.Deep.MidRow
import Derived.Laws.StructEq
import Derived.WalkSmall
import Derived.ProofKit
import Derived.OpenShut
import Derived.BigQuiet
import Derived.Test.YtakibiigcdgohaaGreatDoorD00
import Derived.Test.YtakibiigcdgohaaGreatDoorD01
import Derived.Test.YtakibiigcdgohaaGreatDoorD02
import Derived.Test.YtakibiigcdgohaaGreatDoorD03
import Derived.Test.YtakibiigcdgohaaGreatDoorD09
set_option maxHeartbeats 8000000
namespace Go.Proofs.YtakibiigcdgohaaGreatDoor.he
open Go.RowKit Go.Proofs.YtakibiigcdgohaaGreatDoor.fa
set_option maxRecDepth 20000
def be (x : Int) (s : Nat) : List Int := (le x s).reverse
theorem be_len (x : Int) (s : Nat) : (be x s).length = s := by simp [be, le_len]
theorem be_all (x : Int) (s : Nat) : AllB (be x s) := allB_reverse (le_all x s)
def hb (k n c l e t : Int) : List Int := [k, n, c, 0] ++ (be l 4 ++ (be e 8 ++ be t 8))
theorem hb_len (k n c l e t : Int) : (hb k n c l e t).length = 24 := by simp [hb, be_len]
def Rh (k n c : Int) : Prop := 1 ≤ k ∧ k ≤ 4 ∧ 0 ≤ n ∧ n ≤ 255 ∧ 0 ≤ c ∧ c ≤ 255
theorem allB_app {xs ys : List Int} (h : AllB xs) (h' : AllB ys) : AllB (xs ++ ys) := allB_mem fun x hx => by
  rcases List.mem_append.1 hx with q | q
  · obtain ⟨i, hi, rfl⟩ := mem_gb q; exact h i
  · obtain ⟨i, hi, rfl⟩ := mem_gb q; exact h' i
theorem hb_all {k n c : Int} (h : Rh k n c) (l e t : Int) : AllB (hb k n c l e t) := by
  obtain ⟨h1, h2, h3, h4, h5, h6⟩ := h
  refine allB_app (allB_mem fun x hx => ?_) (allB_app (be_all l 4) (allB_app (be_all e 8) (be_all t 8)))
  simp at hx
  rcases hx with rfl | rfl | rfl | rfl <;> omega
def sub (xs : List Int) (l h : Nat) : List Int := (xs.take h).drop l
theorem sub_len (xs : List Int) (l h : Nat) (hh : h ≤ xs.length) : (sub xs l h).length = h - l := by simp [sub]; omega
theorem sub_gb (xs : List Int) (l h t : Nat) (ht : t < h - l) : gb (sub xs l h) t = gb xs (l + t) := gb_cut xs l h t ht
theorem allB_sub {xs : List Int} (h : AllB xs) (l u : Nat) : AllB (sub xs l u) := allB_mem fun x hx => by
  obtain ⟨i, hi, rfl⟩ := mem_gb (List.mem_of_mem_take (List.mem_of_mem_drop hx))
  exact h i
theorem gb_appL (xs ys : List Int) (k : Nat) : gb (xs ++ ys) k = if k < xs.length then gb xs k else gb ys (k - xs.length) := by
  unfold gb
  rw [List.getD_eq_getElem?_getD]
  by_cases h : k < xs.length
  · rw [if_pos h, List.getElem?_append_left h]; rfl
  · rw [if_neg h, List.getElem?_append_right (by omega)]; rfl
theorem sub_of (a b c : List Int) : sub (a ++ (b ++ c)) a.length (a.length + b.length) = b := by
  unfold sub
  rw [← List.append_assoc, List.take_append_of_le_length (by simp), List.take_of_length_le (by simp), List.drop_left]
theorem sub_at (a b c : List Int) (l h : Nat) (hl : a.length = l) (hh : l + b.length = h) : sub (a ++ (b ++ c)) l h = b := by
  subst hl; subst hh; exact sub_of a b c
def n4 (a b c d : Int) : Int := ((a * 256 + b) * 256 + c) * 256 + d
theorem num_of4 (a b c d : Int) (ha : 0 ≤ a ∧ a ≤ 255) (hb : 0 ≤ b ∧ b ≤ 255) (hc : 0 ≤ c ∧ c ≤ 255) (_hd : 0 ≤ d ∧ d ≤ 255) : num (last8 [a, b, c, d]) = n4 a b c d := by
  simp [num, last8, n4]
  omega
theorem num_of8 (a b c d e f g h : Int) (ha : 0 ≤ a ∧ a ≤ 255) (hb : 0 ≤ b ∧ b ≤ 255) (hc : 0 ≤ c ∧ c ≤ 255) (hd : 0 ≤ d ∧ d ≤ 255) (he : 0 ≤ e ∧ e ≤ 255) (hf : 0 ≤ f ∧ f ≤ 255) (hg : 0 ≤ g ∧ g ≤ 255) (_hh : 0 ≤ h ∧ h ≤ 255) : num (last8 [a, b, c, d, e, f, g, h]) = n4 a b c d * 4294967296 + n4 e f g h := by
  simp [num, last8, n4]
  omega
theorem be4 (x : Int) : be x 4 = [x / 256 / 256 / 256 % 256, x / 256 / 256 % 256, x / 256 % 256, x % 256] := rfl
theorem be8 (x : Int) : be x 8 = [x / 256 / 256 / 256 / 256 / 256 / 256 / 256 % 256, x / 256 / 256 / 256 / 256 / 256 / 256 % 256, x / 256 / 256 / 256 / 256 / 256 % 256, x / 256 / 256 / 256 / 256 % 256, x / 256 / 256 / 256 % 256, x / 256 / 256 % 256, x / 256 % 256, x % 256] := rfl
theorem num_be4 (x : Int) (h : 0 ≤ x ∧ x ≤ 4294967295) : num (last8 (be x 4)) = x := by
  rw [be4, num_of4 _ _ _ _ (by omega) (by omega) (by omega) (by omega)]
  unfold n4; omega
theorem num_be8 (x : Int) (h : 0 ≤ x ∧ x ≤ 18446744073709551615) : num (last8 (be x 8)) = x := by
  rw [be8, num_of8 _ _ _ _ _ _ _ _ (by omega) (by omega) (by omega) (by omega) (by omega) (by omega) (by omega) (by omega)]
  unfold n4; omega
theorem list4 {xs : List Int} (h : xs.length = 4) : xs = [gb xs 0, gb xs 1, gb xs 2, gb xs 3] := by
  match xs, h with
  | [a, b, c, d], _ => rfl
theorem be_num4 {xs : List Int} (h : xs.length = 4) (ha : AllB xs) : be (num (last8 xs)) 4 = xs ∧ 0 ≤ num (last8 xs) ∧ num (last8 xs) ≤ 4294967295 := by
  have h0 := ha 0; have h1 := ha 1; have h2 := ha 2; have h3 := ha 3
  rw [list4 h]
  generalize gb xs 0 = a at *; generalize gb xs 1 = b at *; generalize gb xs 2 = c at *; generalize gb xs 3 = d at *
  rw [num_of4 _ _ _ _ h0 h1 h2 h3, be4]
  unfold n4
  refine ⟨?_, by omega, by omega⟩
  have e1 : (((a * 256 + b) * 256 + c) * 256 + d) % 256 = d := by omega
  have e2 : (((a * 256 + b) * 256 + c) * 256 + d) / 256 % 256 = c := by omega
  have e3 : (((a * 256 + b) * 256 + c) * 256 + d) / 256 / 256 % 256 = b := by omega
  have e4 : (((a * 256 + b) * 256 + c) * 256 + d) / 256 / 256 / 256 % 256 = a := by omega
  rw [e1, e2, e3, e4]
def qk (xs : List Int) : Int := gb xs 0
def qn (xs : List Int) : Int := gb xs 1
def qc (xs : List Int) : Int := gb xs 2
def ql (xs : List Int) : Int := num (last8 (sub xs 4 8))
def qe (xs : List Int) : Int := num (last8 (sub xs 8 16))
def qt (xs : List Int) : Int := num (last8 (sub xs 16 24))
def Tl (xs : List Int) : Prop := inv (sub xs 0 24) = sub xs 24 48 ∧ gb xs 3 = 0 ∧ 1 ≤ gb xs 0 ∧ gb xs 0 ≤ 4
theorem q_hb {k n c l e t : Int} (ys : List Int) (hl : 0 ≤ l ∧ l ≤ 4294967295) (he : 0 ≤ e ∧ e ≤ 18446744073709551615) (ht : 0 ≤ t ∧ t ≤ 18446744073709551615) :
    qk (hb k n c l e t ++ ys) = k ∧ qn (hb k n c l e t ++ ys) = n ∧ qc (hb k n c l e t ++ ys) = c ∧ ql (hb k n c l e t ++ ys) = l ∧ qe (hb k n c l e t ++ ys) = e ∧ qt (hb k n c l e t ++ ys) = t := by
  have e1 : hb k n c l e t ++ ys = [k, n, c, 0] ++ (be l 4 ++ (be e 8 ++ be t 8 ++ ys)) := by simp [hb]
  have e2 : hb k n c l e t ++ ys = ([k, n, c, 0] ++ be l 4) ++ (be e 8 ++ (be t 8 ++ ys)) := by simp [hb]
  have e3 : hb k n c l e t ++ ys = ([k, n, c, 0] ++ be l 4 ++ be e 8) ++ (be t 8 ++ ys) := by simp [hb]
  refine ⟨rfl, rfl, rfl, ?_, ?_, ?_⟩
  · unfold ql; rw [e1, sub_at _ _ _ 4 8 rfl (by rw [be_len]), num_be4 l hl]
  · unfold qe; rw [e2, sub_at _ _ _ 8 16 (by simp [be_len]) (by rw [be_len]), num_be8 e he]
  · unfold qt; rw [e3, sub_at _ _ _ 16 24 (by simp [be_len]) (by rw [be_len]), num_be8 t ht]
def hend (hs tag mark : List Int) : List Int := hs ++ (inv hs ++ (tag ++ mark))
theorem hend_len {hs tag mark : List Int} (h : hs.length = 24) (h1 : tag.length = 32) (h2 : mark.length = 8) : (hend hs tag mark).length = 88 := by
  simp [hend, inv_len, h, h1, h2]
theorem hend_sub {hs tag mark : List Int} (h : hs.length = 24) (h1 : tag.length = 32) : sub (hend hs tag mark) 0 24 = hs ∧ sub (hend hs tag mark) 24 48 = inv hs ∧ sub (hend hs tag mark) 48 80 = tag ∧ (hend hs tag mark).drop 80 = mark := by
  refine ⟨?_, ?_, ?_, ?_⟩
  · have : hend hs tag mark = [] ++ (hs ++ (inv hs ++ (tag ++ mark))) := rfl
    rw [this, sub_at _ _ _ 0 24 rfl (by omega)]
  · unfold hend; rw [sub_at _ _ _ 24 48 h (by rw [inv_len]; omega)]
  · have : hend hs tag mark = (hs ++ inv hs) ++ (tag ++ mark) := by simp [hend]
    rw [this, sub_at _ _ _ 48 80 (by rw [List.length_append, inv_len]; omega) (by omega)]
  · have : hend hs tag mark = (hs ++ inv hs ++ tag) ++ mark := by simp [hend]
    rw [this, List.drop_append_of_le_length (by simp [inv_len]; omega), List.drop_of_length_le (by simp [inv_len]; omega), List.nil_append]
theorem hend_tl {k n c l e t : Int} (h : Rh k n c) (tag mark : List Int) (h1 : tag.length = 32) : Tl (hend (hb k n c l e t) tag mark) := by
  obtain ⟨s1, s2, -, -⟩ := hend_sub (mark := mark) (hb_len k n c l e t) h1
  refine ⟨by rw [s1, s2], rfl, h.1, h.2.1⟩
theorem bit_xr (x t : Nat) (ht : t < 8) : bit (255 ^^^ x) t = !bit x t := by
  rw [bit_test, bit_test, Nat.testBit_xor]
  have : (255 : Nat).testBit t = true := by
    match t, ht with
    | 0, _ => rfl
    | 1, _ => rfl
    | 2, _ => rfl
    | 3, _ => rfl
    | 4, _ => rfl
    | 5, _ => rfl
    | 6, _ => rfl
    | 7, _ => rfl
  rw [this]
  cases x.testBit t <;> rfl
theorem hs_inv (xs : List Int) (i : Nat) (h : i < 8 * xs.length) : hs (inv xs) i = !hs xs i := by
  unfold hs
  rw [inv_gb xs (i / 8) (by omega)]
  unfold xr
  rw [Int.toNat_natCast]
  exact bit_xr _ _ (Nat.mod_lt _ (by omega))
theorem hs_ext {xs ys : List Int} (h : xs.length = ys.length) (hx : AllB xs) (hy : AllB ys) (hb : ∀ i, i < 8 * xs.length → hs xs i = hs ys i) : xs = ys := by
  rw [← ofb_hs ys hy (hs xs) fun i hi => hb i (by omega), ← h]
  exact (ofb_hs xs hx _ fun _ _ => rfl).symm
theorem hs_app (xs ys : List Int) (i : Nat) : hs (xs ++ ys) i = if i < 8 * xs.length then hs xs i else hs ys (i - 8 * xs.length) := by
  unfold hs
  rw [gb_appL]
  by_cases h : i < 8 * xs.length
  · rw [if_pos (by omega), if_pos h]
  · rw [if_neg (by omega), if_neg h, show (i - 8 * xs.length) / 8 = i / 8 - xs.length by omega, show (i - 8 * xs.length) % 8 = i % 8 by omega]
theorem bits_whole {p y z : List Int} (hp : AllB p) (hy : AllB y) (l1 : y.length = p.length) (he : inv y = z) (hm : (∀ i, i < 8 * (2 * p.length) → hs (p ++ inv p) i = true → hs (y ++ z) i = true) ∨ (∀ i, i < 8 * (2 * p.length) → hs (y ++ z) i = true → hs (p ++ inv p) i = true)) : y = p := by
  refine hs_ext l1 hy hp fun i hi => ?_
  have a1 := hs_app p (inv p) i
  have a2 := hs_app p (inv p) (8 * p.length + i)
  have a3 := hs_app y z i
  have a4 := hs_app y z (8 * y.length + i)
  rw [if_pos (by omega)] at a1 a3
  rw [if_neg (by omega), show 8 * p.length + i - 8 * p.length = i by omega, hs_inv p i (by omega)] at a2
  rw [if_neg (by omega), show 8 * y.length + i - 8 * y.length = i by omega, ← he, hs_inv y i (by omega)] at a4
  rw [l1] at a4
  rw [he] at a4
  rcases hm with hm | hm
  · have m1 := hm i (by omega)
    have m2 := hm (8 * p.length + i) (by omega)
    rw [a1, a3] at m1
    rw [a2, a4] at m2
    cases q : hs p i <;> cases r : hs y i <;> simp [q, r] at m1 m2 ⊢
  · have m1 := hm i (by omega)
    have m2 := hm (8 * p.length + i) (by omega)
    rw [a1, a3] at m1
    rw [a2, a4] at m2
    cases q : hs p i <;> cases r : hs y i <;> simp [q, r] at m1 m2 ⊢
def mark (n : Nat) : List Int := List.replicate (n - 8) 255 ++ List.replicate 8 0
theorem mark_len (n : Nat) (h : 8 ≤ n) : (mark n).length = n := by simp [mark]; omega
theorem mark_all (n : Nat) : AllB (mark n) := allB_app (allB_replicate 255 _ (by omega)) (allB_replicate 0 _ (by omega))
end Go.Proofs.YtakibiigcdgohaaGreatDoor.he
namespace Go.Proofs.YtakibiigcdgohaaGreatDoor.ck
open Go.RowKit Go.Proofs.YtakibiigcdgohaaGreatDoor.fa Go.Proofs.YtakibiigcdgohaaGreatDoor.he
set_option maxRecDepth 20000
def nc (S : Nat) : Nat := (624 + S - 1) / S
theorem nc_le {S : Nat} (h1 : 32 ≤ S) (_h2 : S ≤ 4096) : 1 ≤ nc S ∧ nc S ≤ 20 ∧ 624 ≤ nc S * S ∧ nc S * S < 624 + S := by
  have e := Nat.div_add_mod (624 + S - 1) S
  have m := Nat.mod_lt (624 + S - 1) (show 0 < S by omega)
  have e' : S * nc S + (624 + S - 1) % S = 624 + S - 1 := e
  rw [Nat.mul_comm] at e'
  have h3 : 624 ≤ nc S * S := by omega
  refine ⟨?_, ?_, h3, by omega⟩
  · cases h : nc S with
    | zero => rw [h] at h3; omega
    | succ k => omega
  · refine Nat.le_of_not_lt fun hn => ?_
    have : 21 * S ≤ nc S * S := Nat.mul_le_mul_right _ hn
    omega
def pd (S : Nat) (xs : List Int) : List Int := xs ++ List.replicate (nc S * S - 624) 255
theorem pd_len {S : Nat} {xs : List Int} (h1 : 32 ≤ S) (h2 : S ≤ 4096) (hl : xs.length = 624) : (pd S xs).length = nc S * S := by
  have := nc_le h1 h2
  simp [pd, hl]; omega
theorem pd_all {S : Nat} {xs : List Int} (h : AllB xs) : AllB (pd S xs) := allB_app h (allB_replicate 255 _ (by omega))
theorem pd_take {S : Nat} {xs : List Int} (hl : xs.length = 624) : (pd S xs).take 624 = xs := List.take_left' hl
def sec (S : Nat) (xs : List Int) (i : Nat) : List Int := sub (pd S xs) (i * S) (i * S + S)
theorem sec_end {S i : Nat} (h : i < nc S) : i * S + S ≤ nc S * S := by
  have : (i + 1) * S ≤ nc S * S := Nat.mul_le_mul_right _ h
  rwa [Nat.succ_mul] at this
theorem sec_len {S i : Nat} {xs : List Int} (h1 : 32 ≤ S) (h2 : S ≤ 4096) (hl : xs.length = 624) (hi : i < nc S) : (sec S xs i).length = S := by
  unfold sec
  rw [sub_len _ _ _ (by rw [pd_len h1 h2 hl]; exact sec_end hi)]
  omega
theorem sec_all {S : Nat} {xs : List Int} (h : AllB xs) (i : Nat) : AllB (sec S xs i) := allB_sub (pd_all h) _ _
def parts (f : Nat → List Int) : Nat → List Int
  | 0 => []
  | k + 1 => parts f k ++ f k
theorem parts_len {f : Nat → List Int} {S n : Nat} (h : ∀ i, i < n → (f i).length = S) (k : Nat) (hk : k ≤ n) : (parts f k).length = k * S := by
  induction k with
  | zero => simp [parts]
  | succ k ih => rw [parts, List.length_append, ih (by omega), h k (by omega), Nat.succ_mul]
theorem parts_congr {f f' : Nat → List Int} (k : Nat) (h : ∀ i, i < k → f i = f' i) : parts f k = parts f' k := by
  induction k with
  | zero => rfl
  | succ k ih => rw [parts, parts, ih fun i hi => h i (by omega), h k (by omega)]
theorem parts_all {f : Nat → List Int} (k : Nat) (h : ∀ i, i < k → AllB (f i)) : AllB (parts f k) := by
  induction k with
  | zero => exact allB_mem fun x hx => by cases hx
  | succ k ih => exact allB_app (ih fun i hi => h i (by omega)) (h k (by omega))
theorem sec_parts (S : Nat) (xs : List Int) (k : Nat) : parts (sec S xs) k = (pd S xs).take (k * S) := by
  induction k with
  | zero => simp [parts]
  | succ k ih =>
    rw [parts, ih, Nat.succ_mul]
    unfold sec sub
    rw [List.drop_take, List.take_add, Nat.add_sub_cancel_left]
theorem sec_whole {S : Nat} {xs : List Int} (h1 : 32 ≤ S) (h2 : S ≤ 4096) (hl : xs.length = 624) : (parts (sec S xs) (nc S)).take 624 = xs := by
  rw [sec_parts, List.take_of_length_le (show (pd S xs).length ≤ nc S * S by rw [pd_len h1 h2 hl]; exact Nat.le_refl _), pd_take hl]
def kend (S : Nat) (i : Nat) (gen : Int) (mk : List Int) : List Int := hend (hb 4 (i : Int) 0 (nc S : Int) gen 0) (List.replicate 32 255) mk
def pgk (S : Nat) (xs : List Int) (gen : Int) (mk : List Int) (i : Nat) : List Int := sec S xs i ++ kend S i gen mk
theorem rh_k {S i : Nat} (h1 : 32 ≤ S) (h2 : S ≤ 4096) (hi : i < nc S) : Rh 4 (i : Int) 0 := by
  have := nc_le h1 h2
  exact ⟨by omega, by omega, by omega, by omega, by omega, by omega⟩
theorem kend_len {S i : Nat} {gen : Int} {mk : List Int} (h : mk.length = 8) : (kend S i gen mk).length = 88 := hend_len (hb_len _ _ _ _ _ _) (by simp) h
theorem pgk_len {S i : Nat} {xs : List Int} {gen : Int} {mk : List Int} (h1 : 32 ≤ S) (h2 : S ≤ 4096) (hl : xs.length = 624) (hi : i < nc S) (h : mk.length = 8) : (pgk S xs gen mk i).length = S + 88 := by
  unfold pgk
  rw [List.length_append, sec_len h1 h2 hl hi, kend_len h]
theorem pgk_drop {S i : Nat} {xs : List Int} {gen : Int} {mk : List Int} (h1 : 32 ≤ S) (h2 : S ≤ 4096) (hl : xs.length = 624) (hi : i < nc S) : (pgk S xs gen mk i).drop S = kend S i gen mk ∧ (pgk S xs gen mk i).take S = sec S xs i := by
  have := sec_len h1 h2 hl hi
  exact ⟨List.drop_left' this, List.take_left' this⟩
def Kpg (S : Nat) (gen : Int) (i : Nat) (ys : List Int) : Prop :=
  ys.length = S + 88 ∧ Tl (ys.drop S) ∧ qk (ys.drop S) = 4 ∧ qn (ys.drop S) = (i : Int) ∧ he.qc (ys.drop S) = 0 ∧ ql (ys.drop S) = (nc S : Int) ∧ qe (ys.drop S) = gen ∧ qt (ys.drop S) = 0
def Kcm (S : Nat) (ys : List Int) : Prop := (ys.drop S).drop 80 = List.replicate 8 0
def kgen (S : Nat) (ps : List (List Int)) : Int := qe ((ps.getD 0 []).drop S)
def Khd (S : Nat) (ps : List (List Int)) : Prop := nc S ≤ ps.length ∧ (∀ i, i < nc S → Kpg S (kgen S ps) i (ps.getD i [])) ∧ Kcm S (ps.getD (nc S - 1) [])
def krec (S : Nat) (ps : List (List Int)) : List Int := (parts (fun i => (ps.getD i []).take S) (nc S)).take 624
theorem pgk_tells {S i : Nat} {xs : List Int} {gen : Int} {mk : List Int} (h1 : 32 ≤ S) (h2 : S ≤ 4096) (hl : xs.length = 624) (hi : i < nc S) (hg : 0 ≤ gen ∧ gen ≤ 18446744073709551615) (hm : mk.length = 8) : Kpg S gen i (pgk S xs gen mk i) := by
  have n := nc_le h1 h2
  have q := q_hb (k := 4) (n := (i : Int)) (c := 0) (l := (nc S : Int)) (e := gen) (t := 0) (inv (hb 4 (i : Int) 0 (nc S : Int) gen 0) ++ (List.replicate 32 255 ++ mk)) ⟨by omega, by omega⟩ hg ⟨by omega, by omega⟩
  unfold Kpg
  rw [(pgk_drop h1 h2 hl hi).1]
  exact ⟨pgk_len h1 h2 hl hi hm, hend_tl (rh_k h1 h2 hi) _ _ (by simp), q⟩
theorem pgk_cm {S i : Nat} {xs : List Int} {gen : Int} {mk : List Int} (h1 : 32 ≤ S) (h2 : S ≤ 4096) (hl : xs.length = 624) (hi : i < nc S) : Kcm S (pgk S xs gen mk i) ↔ mk = List.replicate 8 0 := by
  unfold Kcm
  rw [(pgk_drop h1 h2 hl hi).1]
  unfold kend
  rw [(hend_sub (hb_len _ _ _ _ _ _) (by simp)).2.2.2]
def kps (S : Nat) (xs : List Int) (gen : Int) (mk : List Int) : List (List Int) := (List.range (nc S)).map fun i => if i + 1 = nc S then pgk S xs gen mk i else pgk S xs gen (List.replicate 8 255) i
theorem kps_at {S : Nat} {xs : List Int} {gen : Int} {mk : List Int} (i : Nat) (hi : i < nc S) : (kps S xs gen mk).getD i [] = if i + 1 = nc S then pgk S xs gen mk i else pgk S xs gen (List.replicate 8 255) i := by
  simp [kps, List.getD, hi]
theorem kps_len (S : Nat) (xs : List Int) (gen : Int) (mk : List Int) : (kps S xs gen mk).length = nc S := by simp [kps]
theorem kps_take {S i : Nat} {xs : List Int} {gen : Int} {mk : List Int} (h1 : 32 ≤ S) (h2 : S ≤ 4096) (hl : xs.length = 624) (hi : i < nc S) : ((kps S xs gen mk).getD i []).take S = sec S xs i := by
  rw [kps_at i hi]
  split
  · exact (pgk_drop h1 h2 hl hi).2
  · exact (pgk_drop h1 h2 hl hi).2
theorem kps_tells {S i : Nat} {xs : List Int} {gen : Int} {mk : List Int} (h1 : 32 ≤ S) (h2 : S ≤ 4096) (hl : xs.length = 624) (hi : i < nc S) (hg : 0 ≤ gen ∧ gen ≤ 18446744073709551615) (hm : mk.length = 8) : Kpg S gen i ((kps S xs gen mk).getD i []) := by
  rw [kps_at i hi]
  split
  · exact pgk_tells h1 h2 hl hi hg hm
  · exact pgk_tells h1 h2 hl hi hg (by simp)
theorem kps_gen {S : Nat} {xs : List Int} {gen : Int} {mk : List Int} (h1 : 32 ≤ S) (h2 : S ≤ 4096) (hl : xs.length = 624) (hg : 0 ≤ gen ∧ gen ≤ 18446744073709551615) (hm : mk.length = 8) : kgen S (kps S xs gen mk) = gen := by
  have n := nc_le h1 h2
  exact (kps_tells h1 h2 hl (by omega) hg hm (i := 0)).2.2.2.2.2.2.1
theorem kps_hold {S : Nat} {xs : List Int} {gen : Int} (h1 : 32 ≤ S) (h2 : S ≤ 4096) (hl : xs.length = 624) (hg : 0 ≤ gen ∧ gen ≤ 18446744073709551615) :
    Khd S (kps S xs gen (List.replicate 8 0)) ∧ kgen S (kps S xs gen (List.replicate 8 0)) = gen ∧ krec S (kps S xs gen (List.replicate 8 0)) = xs := by
  have n := nc_le h1 h2
  have e := kps_gen (mk := List.replicate 8 0) h1 h2 hl hg (by simp)
  refine ⟨⟨by rw [kps_len]; exact Nat.le_refl _, fun i hi => ?_, ?_⟩, e, ?_⟩
  · rw [e]; exact kps_tells h1 h2 hl hi hg (by simp)
  · rw [kps_at _ (by omega), if_pos (by omega)]
    exact (pgk_cm h1 h2 hl (by omega)).2 rfl
  · unfold krec
    rw [parts_congr (f' := sec S xs) _ fun i hi => kps_take h1 h2 hl hi]
    exact sec_whole h1 h2 hl
theorem khd_few {S : Nat} {ps : List (List Int)} (h : ps.length < nc S) : ¬ Khd S ps := fun q => by
  have := q.1
  omega
end Go.Proofs.YtakibiigcdgohaaGreatDoor.ck
namespace Go.Proofs.YtakibiigcdgohaaGreatDoor.ck
open Go.RowKit Go.Proofs.YtakibiigcdgohaaGreatDoor.fa Go.Proofs.YtakibiigcdgohaaGreatDoor.he
set_option maxRecDepth 20000
def Kc (S : Nat) (bs : List (List (List Int))) (k : Nat) (at' gen : Int) (rec : List Int) : Prop :=
  (at' = -1 ∧ gen = 0 ∧ rec = [] ∧ ∀ j, j < k → ¬ Khd S (bs.getD j [])) ∨
  (∃ i : Nat, i < k ∧ at' = (i : Int) ∧ Khd S (bs.getD i []) ∧ gen = kgen S (bs.getD i []) ∧ rec = krec S (bs.getD i []) ∧
    (∀ j, j < k → Khd S (bs.getD j []) → kgen S (bs.getD j []) ≤ gen) ∧ ∀ j, j < i → Khd S (bs.getD j []) → kgen S (bs.getD j []) < gen)
theorem kc_zero (S : Nat) (bs : List (List (List Int))) : Kc S bs 0 (-1) 0 [] := .inl ⟨rfl, rfl, rfl, fun _ hj => absurd hj (Nat.not_lt_zero _)⟩
theorem kc_none {S : Nat} {bs : List (List (List Int))} {k : Nat} {at' gen : Int} {rec : List Int} (h : Kc S bs k at' gen rec) (hn : ¬ Khd S (bs.getD k [])) : Kc S bs (k + 1) at' gen rec := by
  rcases h with ⟨h1, h2, h3, h4⟩ | ⟨i, h1, h2, h3, h4, h5, h6, h7⟩
  · refine .inl ⟨h1, h2, h3, fun j hj => ?_⟩
    by_cases e : j = k
    · rw [e]; exact hn
    · exact h4 j (by omega)
  · refine .inr ⟨i, by omega, h2, h3, h4, h5, fun j hj hh => ?_, h7⟩
    by_cases e : j = k
    · rw [e] at hh; exact absurd hh hn
    · exact h6 j (by omega) hh
theorem kc_first {S : Nat} {bs : List (List (List Int))} {k : Nat} {at' gen : Int} {rec : List Int} (h : Kc S bs k at' gen rec) (ha : at' < 0) (hy : Khd S (bs.getD k [])) : Kc S bs (k + 1) (k : Int) (kgen S (bs.getD k [])) (krec S (bs.getD k [])) := by
  rcases h with ⟨-, -, -, h4⟩ | ⟨i, h1, h2, -⟩
  · refine .inr ⟨k, by omega, rfl, hy, rfl, rfl, fun j hj hh => ?_, fun j hj hh => absurd hh (h4 j hj)⟩
    by_cases e : j = k
    · rw [e]; exact Int.le_refl _
    · exact absurd hh (h4 j (by omega))
  · omega
theorem kc_more {S : Nat} {bs : List (List (List Int))} {k : Nat} {at' gen : Int} {rec : List Int} (h : Kc S bs k at' gen rec) (ha : ¬ at' < 0) (hy : Khd S (bs.getD k [])) (hg : kgen S (bs.getD k []) > gen) : Kc S bs (k + 1) (k : Int) (kgen S (bs.getD k [])) (krec S (bs.getD k [])) := by
  rcases h with ⟨h1, -⟩ | ⟨i, h1, h2, h3, h4, h5, h6, h7⟩
  · omega
  · refine .inr ⟨k, by omega, rfl, hy, rfl, rfl, fun j hj hh => ?_, fun j hj hh => ?_⟩
    · by_cases e : j = k
      · rw [e]; exact Int.le_refl _
      · have := h6 j (by omega) hh
        omega
    · have := h6 j hj hh
      omega
theorem kc_less {S : Nat} {bs : List (List (List Int))} {k : Nat} {at' gen : Int} {rec : List Int} (h : Kc S bs k at' gen rec) (ha : ¬ at' < 0) (hg : ¬ kgen S (bs.getD k []) > gen) : Kc S bs (k + 1) at' gen rec := by
  rcases h with ⟨h1, -⟩ | ⟨i, h1, h2, h3, h4, h5, h6, h7⟩
  · omega
  · refine .inr ⟨i, by omega, h2, h3, h4, h5, fun j hj hh => ?_, h7⟩
    by_cases e : j = k
    · rw [e]; omega
    · exact h6 j (by omega) hh
end Go.Proofs.YtakibiigcdgohaaGreatDoor.ck
namespace Go.Proofs.YtakibiigcdgohaaGreatDoor.vb
open Go.RowKit Go.Proofs.YtakibiigcdgohaaGreatDoor.fa Go.Proofs.YtakibiigcdgohaaGreatDoor.he Go.Proofs.YtakibiigcdgohaaGreatDoor.na Go.Proofs.YtakibiigcdgohaaGreatDoor.ck
set_option maxRecDepth 20000
structure Bx where
  s : St
  cur : Int
  gen : Int
  cln : Nat → Bool
  bad : Nat → Bool
  lk : Nat → Bool
  hf : Bool
def bpg (P : Nat) (s : St) (k : Nat) : List (List Int) := (List.range P).map (pgs s k)
def dst (P T : Nat) (pl : Pln) (b : Bx) (k : Nat) : Bx × Int :=
  if off b.s = true then (b, 4) else
  match pl (ops b.s) with
  | none => ({ b with s := edo P T pl b.s k, cln := at1 b.cln k true, lk := at1 b.lk k false }, 0)
  | some (true, _) => ({ b with s := edo P T pl b.s k }, 4)
  | some (false, _) =>
    match pl (ops b.s + 1) with
    | none => ({ b with s := sdo P T pl (edo P T pl b.s k) k, bad := at1 b.bad k true, cln := at1 b.cln k false, lk := at1 b.lk k false }, 5)
    | some (true, _) => ({ b with s := sdo P T pl (edo P T pl b.s k) k, bad := at1 b.bad k true, cln := at1 b.cln k false, hf := true }, 4)
    | some (false, _) => ({ b with s := sdo P T pl (edo P T pl b.s k) k, bad := at1 b.bad k true, cln := at1 b.cln k false, lk := at1 b.lk k true, hf := true }, 5)
def prg (N P T : Nat) (pl : Pln) (s : St) (k p : Nat) (d : List Int) : St × Int :=
  match pno N P T s (k : Int) (p : Int) d with
  | some x => (s, x)
  | none => (pdo T pl s k p d, ans (pl (ops s)))
def wth (T : Nat) (l : List (List Int)) (i : Nat) : List Int := if i < l.length then l.getD i [] else he.mark T
def wpl (l : List (List Int)) (i : Nat) : Nat := min i (l.length - 1)
def wri (N P T : Nat) (pl : Pln) (l : List (List Int)) (k : Nat) : Nat → St → Nat → St × Int
  | 0, s, _ => (s, 0)
  | m + 1, s, i => if (prg N P T pl s k (wpl l i) (wth T l i)).2 = 0 then wri N P T pl l k m (prg N P T pl s k (wpl l i) (wth T l i)).1 (i + 1) else prg N P T pl s k (wpl l i) (wth T l i)
def tr2 (N P T : Nat) (pl : Pln) (b : Bx) (k : Nat) (l : List (List Int)) : Bx × Int :=
  let r := wri N P T pl l k (l.length + 1) b.s 0
  if r.2 = 0 ∨ r.2 = 4 then ({ b with s := r.1, cln := at1 b.cln k false }, r.2)
  else
    let d := dst P T pl { b with s := r.1, cln := at1 b.cln k false, bad := at1 b.bad k true } k
    if d.2 = 4 then d else (d.1, 5)
def tr1 (N P T : Nat) (pl : Pln) (b : Bx) (k : Nat) (l : List (List Int)) : Bx × Int :=
  if b.cln k = true then tr2 N P T pl b k l
  else if (dst P T pl b k).2 = 0 then tr2 N P T pl (dst P T pl b k).1 k l else dst P T pl b k
def oth (P T : Nat) (pl : Pln) : Nat → Bx → Nat → Bx × Int
  | 0, b, _ => (b, 0)
  | m + 1, b, k => if (k : Int) = b.cur ∨ b.cln k = true ∨ (b.bad k = true ∧ b.lk k = false) then oth P T pl m b (k + 1)
    else if (dst P T pl b k).2 = 4 then dst P T pl b k else oth P T pl m (dst P T pl b k).1 (k + 1)
def cmi (N P T : Nat) (pl : Pln) (l : List (List Int)) (gen : Int) : Nat → Bx → Nat → Bx × Int
  | 0, b, _ => (b, 15)
  | m + 1, b, i => if ((i % 4 : Nat) : Int) = b.cur ∨ b.bad (i % 4) = true then cmi N P T pl l gen m b (i + 1)
    else if (tr1 N P T pl b (i % 4) l).2 = 4 then tr1 N P T pl b (i % 4) l
    else if (tr1 N P T pl b (i % 4) l).2 = 0 then oth P T pl 4 { (tr1 N P T pl b (i % 4) l).1 with cur := ((i % 4 : Nat) : Int), gen := gen } 0
    else cmi N P T pl l gen m (tr1 N P T pl b (i % 4) l).1 (i + 1)
def cmt (N P T : Nat) (pl : Pln) (b : Bx) (l : List (List Int)) (gen : Int) : Bx × Int :=
  if off b.s = true then (b, 4) else cmi N P T pl l gen 4 b (b.cur + 1).toNat
def Fsh (P T : Nat) (s : St) (k : Nat) : Prop := (∀ p, p < P → pgs s k p = List.replicate T 255 ∧ usd s k p = 0) ∧ lsp s k = -1 ∧ scr s k = false
def Nul (P T : Nat) (s : St) (k : Nat) : Prop := ∀ p, p < P → pgs s k p = List.replicate T 0
def Jk (P T : Nat) (b : Bx) (k : Nat) : Prop := (b.cln k = true → Fsh P T b.s k) ∧ (b.bad k = true → b.lk k = false → b.cln k = true ∨ Nul P T b.s k)
def J (P T : Nat) (b : Bx) : Prop := ∀ k, k < 4 → Jk P T b k
def Sam (s s' : St) (k : Nat) : Prop := (∀ p, pgs s' k p = pgs s k p ∧ usd s' k p = usd s k p) ∧ lsp s' k = lsp s k ∧ scr s' k = scr s k
theorem Sam.refl (s : St) (k : Nat) : Sam s s k := ⟨fun _ => ⟨rfl, rfl⟩, rfl, rfl⟩
theorem Sam.trans {s s' s2 : St} {k : Nat} (h : Sam s s' k) (h2 : Sam s' s2 k) : Sam s s2 k := ⟨fun p => ⟨(h2.1 p).1.trans (h.1 p).1, (h2.1 p).2.trans (h.1 p).2⟩, h2.2.1.trans h.2.1, h2.2.2.trans h.2.2⟩
theorem Sam.fsh {P T : Nat} {s s' : St} {k : Nat} (h : Sam s s' k) (q : Fsh P T s k) : Fsh P T s' k := ⟨fun p hp => ⟨by rw [(h.1 p).1]; exact (q.1 p hp).1, by rw [(h.1 p).2]; exact (q.1 p hp).2⟩, by rw [h.2.1]; exact q.2.1, by rw [h.2.2]; exact q.2.2⟩
theorem Sam.nul {P T : Nat} {s s' : St} {k : Nat} (h : Sam s s' k) (q : Nul P T s k) : Nul P T s' k := fun p hp => by rw [(h.1 p).1]; exact q p hp
theorem sam_edo {P T : Nat} {pl : Pln} {s : St} {k j : Nat} (h : j ≠ k) : Sam s (edo P T pl s k) j := by
  refine ⟨fun p => ⟨?_, ?_⟩, ?_, ?_⟩
  · show (if j = k then _ else _) = _; rw [if_neg h]
  · show (if j = k ∧ _ then _ else _) = _; rw [if_neg fun q => h q.1]
  · show (if j = k ∧ _ then _ else _) = _; rw [if_neg fun q => h q.1]
  · show (if j = k ∧ _ then _ else _) = _; rw [if_neg fun q => h q.1]
theorem sam_sdo {P T : Nat} {pl : Pln} {s : St} {k j : Nat} (h : j ≠ k) : Sam s (sdo P T pl s k) j := by
  refine ⟨fun p => ⟨?_, rfl⟩, rfl, ?_⟩
  · show (if j = k then _ else _) = _; rw [if_neg h]
  · exact at1_other _ _ _ _ h
theorem sam_pdo {T : Nat} {pl : Pln} {s : St} {k p j : Nat} {d : List Int} (h : j ≠ k) : Sam s (pdo T pl s k p d) j :=
  ⟨fun _ => ⟨at2_other _ _ _ _ _ _ fun z => h z.1, at2_other _ _ _ _ _ _ fun z => h z.1⟩, at1_other _ _ _ _ h, rfl⟩
theorem sam_prg {N P T : Nat} {pl : Pln} {s : St} {k p j : Nat} {d : List Int} (h : j ≠ k) : Sam s (prg N P T pl s k p d).1 j := by
  unfold prg
  split
  · exact Sam.refl _ _
  · exact sam_pdo h
theorem sam_wri {N P T : Nat} {pl : Pln} {l : List (List Int)} {k j : Nat} (h : j ≠ k) : ∀ (m : Nat) (s : St) (i : Nat), Sam s (wri N P T pl l k m s i).1 j
  | 0, s, _ => Sam.refl s j
  | m + 1, s, i => by
    unfold wri
    split
    · exact (sam_prg h).trans (sam_wri h m _ _)
    · exact sam_prg h
theorem edo_fsh {P T : Nat} {pl : Pln} {s : St} {k : Nat} (h : pl (ops s) = none) : Fsh P T (edo P T pl s k) k := by
  refine ⟨fun p _ => ⟨?_, ?_⟩, ?_, ?_⟩
  · show (if k = k then ern P T (pl (ops s)) _ p else _) = _; rw [if_pos rfl, h]; rfl
  · show (if k = k ∧ (pl (ops s)).isNone = true then (0 : Int) else _) = 0; rw [if_pos ⟨rfl, by rw [h]; rfl⟩]
  · show (if k = k ∧ (pl (ops s)).isNone = true then (-1 : Int) else _) = -1; rw [if_pos ⟨rfl, by rw [h]; rfl⟩]
  · show (if k = k ∧ (pl (ops s)).isNone = true then false else _) = false; rw [if_pos ⟨rfl, by rw [h]; rfl⟩]
theorem sdo_nul {P T : Nat} {pl : Pln} {s : St} {k : Nat} (h : pl (ops s) = none) : Nul P T (sdo P T pl s k) k := fun p _ => by
  show (if k = k then scn P T (pl (ops s)) _ p else _) = _
  rw [if_pos rfl, h]; rfl
theorem jk_sam {P T : Nat} {b b' : Bx} {k : Nat} (h : Jk P T b k) (hs : Sam b.s b'.s k) (h1 : b'.cln k = b.cln k) (h2 : b'.bad k = b.bad k) (h3 : b'.lk k = b.lk k) : Jk P T b' k :=
  ⟨fun q => hs.fsh (h.1 (by rw [← h1]; exact q)), fun q r => by
    rcases h.2 (by rw [← h2]; exact q) (by rw [← h3]; exact r) with z | z
    · exact .inl (by rw [h1]; exact z)
    · exact .inr (hs.nul z)⟩
theorem dst_j {P T : Nat} {pl : Pln} {b : Bx} {k : Nat} (h : ∀ j, j < 4 → j ≠ k → Jk P T b j) (ha : (dst P T pl b k).2 ≠ 4) : J P T (dst P T pl b k).1 ∧ ((dst P T pl b k).2 = 0 ∨ (dst P T pl b k).2 = 5) ∧
    ((dst P T pl b k).2 = 0 → (dst P T pl b k).1.cln k = true) ∧ ((dst P T pl b k).1.cln k = true ∨ (dst P T pl b k).1.bad k = true) := by
  unfold dst at ha ⊢
  split at ha
  · exact absurd rfl ha
  · rename_i h0
    rw [if_neg h0]
    split at ha
    · rename_i hp
      refine ⟨fun j hj => ?_, .inl rfl, fun _ => at1_same _ _ _, .inl (at1_same _ _ _)⟩
      by_cases e : j = k
      · subst e
        exact ⟨fun _ => edo_fsh hp, fun _ _ => .inl (at1_same _ _ _)⟩
      · exact jk_sam (h j hj e) (sam_edo e) (at1_other _ _ _ _ e) rfl (at1_other _ _ _ _ e)
    · exact absurd rfl ha
    · rename_i m hp
      split at ha
      · rename_i hq
        refine ⟨fun j hj => ?_, .inr rfl, fun z => absurd (show (5 : Int) = 0 from z) (by decide), .inr (at1_same _ _ _)⟩
        by_cases e : j = k
        · subst e
          exact ⟨fun q => absurd (show at1 b.cln j false j = true from q) (by rw [at1_same]; exact Bool.false_ne_true), fun _ _ => .inr (sdo_nul hq)⟩
        · exact jk_sam (h j hj e) ((sam_edo e).trans (sam_sdo e)) (at1_other _ _ _ _ e) (at1_other _ _ _ _ e) (at1_other _ _ _ _ e)
      · exact absurd rfl ha
      · rename_i hq
        refine ⟨fun j hj => ?_, .inr rfl, fun z => absurd (show (5 : Int) = 0 from z) (by decide), .inr (at1_same _ _ _)⟩
        by_cases e : j = k
        · subst e
          exact ⟨fun q => absurd (show at1 b.cln j false j = true from q) (by rw [at1_same]; exact Bool.false_ne_true), fun _ q => absurd (show at1 b.lk j true j = false from q) (by rw [at1_same]; decide)⟩
        · exact jk_sam (h j hj e) ((sam_edo e).trans (sam_sdo e)) (at1_other _ _ _ _ e) (at1_other _ _ _ _ e) (at1_other _ _ _ _ e)
theorem dst_fl {P T : Nat} {pl : Pln} {b : Bx} {k j : Nat} (h : j ≠ k) : (dst P T pl b k).1.cln j = b.cln j ∧ (dst P T pl b k).1.bad j = b.bad j ∧ (dst P T pl b k).1.lk j = b.lk j := by
  unfold dst
  split
  · exact ⟨rfl, rfl, rfl⟩
  · split
    · exact ⟨at1_other _ _ _ _ h, rfl, at1_other _ _ _ _ h⟩
    · exact ⟨rfl, rfl, rfl⟩
    · split
      · exact ⟨at1_other _ _ _ _ h, at1_other _ _ _ _ h, at1_other _ _ _ _ h⟩
      · exact ⟨at1_other _ _ _ _ h, at1_other _ _ _ _ h, rfl⟩
      · exact ⟨at1_other _ _ _ _ h, at1_other _ _ _ _ h, at1_other _ _ _ _ h⟩
theorem dst_cur {P T : Nat} {pl : Pln} {b : Bx} {k : Nat} : (dst P T pl b k).1.cur = b.cur ∧ (dst P T pl b k).1.gen = b.gen := by
  unfold dst
  split
  · exact ⟨rfl, rfl⟩
  · split
    · exact ⟨rfl, rfl⟩
    · exact ⟨rfl, rfl⟩
    · split <;> exact ⟨rfl, rfl⟩
theorem dst_sam {P T : Nat} {pl : Pln} {b : Bx} {k j : Nat} (h : j ≠ k) : Sam b.s (dst P T pl b k).1.s j := by
  unfold dst
  split
  · exact Sam.refl _ _
  · split
    · exact sam_edo h
    · exact sam_edo h
    · split
      · exact (sam_edo h).trans (sam_sdo h)
      · exact (sam_edo h).trans (sam_sdo h)
      · exact (sam_edo h).trans (sam_sdo h)
theorem dst_bad0 {P T : Nat} {pl : Pln} {b : Bx} {k : Nat} (h : (dst P T pl b k).2 = 0) : (dst P T pl b k).1.bad = b.bad := by
  unfold dst at h ⊢
  split at h
  · exact absurd (show (4 : Int) = 0 from h) (by decide)
  · rename_i h0
    rw [if_neg h0]
    split at h
    · rfl
    · exact absurd (show (4 : Int) = 0 from h) (by decide)
    · split at h
      · exact absurd (show (5 : Int) = 0 from h) (by decide)
      · exact absurd (show (4 : Int) = 0 from h) (by decide)
      · exact absurd (show (5 : Int) = 0 from h) (by decide)
theorem dst_ops {P T : Nat} {pl : Pln} {b : Bx} {k : Nat} : ops (dst P T pl b k).1.s ≤ ops b.s + 2 := by
  unfold dst
  split
  · exact Nat.le_add_right _ _
  · split
    · exact Nat.le_succ _
    · exact Nat.le_succ _
    · split <;> exact Nat.le_refl _
theorem prg_ops {N P T : Nat} {pl : Pln} {s : St} {k p : Nat} {d : List Int} : ops (prg N P T pl s k p d).1 ≤ ops s + 1 := by
  unfold prg
  split
  · exact Nat.le_succ _
  · exact Nat.le_refl _
theorem wri_ops {N P T : Nat} {pl : Pln} {l : List (List Int)} {k : Nat} : ∀ (m : Nat) (s : St) (i : Nat), ops (wri N P T pl l k m s i).1 ≤ ops s + m
  | 0, s, _ => Nat.le_refl _
  | m + 1, s, i => by
    unfold wri
    have h1 := prg_ops (N := N) (P := P) (T := T) (pl := pl) (s := s) (k := k) (p := wpl l i) (d := wth T l i)
    split
    · have h2 := wri_ops (N := N) (P := P) (T := T) (pl := pl) (l := l) (k := k) m (prg N P T pl s k (wpl l i) (wth T l i)).1 (i + 1)
      omega
    · omega
theorem tr2_ops {N P T : Nat} {pl : Pln} {b : Bx} {k : Nat} {l : List (List Int)} : ops (tr2 N P T pl b k l).1.s ≤ ops b.s + l.length + 3 := by
  have h1 := wri_ops (N := N) (P := P) (T := T) (pl := pl) (l := l) (k := k) (l.length + 1) b.s 0
  unfold tr2
  simp only []
  split
  · show ops (wri N P T pl l k (l.length + 1) b.s 0).1 ≤ _
    omega
  · have h2 := dst_ops (P := P) (T := T) (pl := pl) (b := { b with s := (wri N P T pl l k (l.length + 1) b.s 0).1, cln := at1 b.cln k false, bad := at1 b.bad k true }) (k := k)
    split
    · refine Nat.le_trans h2 ?_
      show ops (wri N P T pl l k (l.length + 1) b.s 0).1 + 2 ≤ _
      omega
    · refine Nat.le_trans h2 ?_
      show ops (wri N P T pl l k (l.length + 1) b.s 0).1 + 2 ≤ _
      omega
theorem tr1_ops {N P T : Nat} {pl : Pln} {b : Bx} {k : Nat} {l : List (List Int)} : ops (tr1 N P T pl b k l).1.s ≤ ops b.s + l.length + 5 := by
  unfold tr1
  split
  · have := tr2_ops (N := N) (P := P) (T := T) (pl := pl) (b := b) (k := k) (l := l)
    omega
  · have h1 := dst_ops (P := P) (T := T) (pl := pl) (b := b) (k := k)
    split
    · have := tr2_ops (N := N) (P := P) (T := T) (pl := pl) (b := (dst P T pl b k).1) (k := k) (l := l)
      omega
    · omega
theorem oth_ops {P T : Nat} {pl : Pln} : ∀ (m : Nat) (b : Bx) (k : Nat), ops (oth P T pl m b k).1.s ≤ ops b.s + 2 * m
  | 0, b, _ => Nat.le_refl _
  | m + 1, b, k => by
    unfold oth
    have h1 := dst_ops (P := P) (T := T) (pl := pl) (b := b) (k := k)
    split
    · have := oth_ops (P := P) (T := T) (pl := pl) m b (k + 1)
      omega
    · split
      · omega
      · have := oth_ops (P := P) (T := T) (pl := pl) m (dst P T pl b k).1 (k + 1)
        omega
theorem cmi_ops {N P T : Nat} {pl : Pln} {l : List (List Int)} {gen : Int} : ∀ (m : Nat) (b : Bx) (i : Nat), ops (cmi N P T pl l gen m b i).1.s ≤ ops b.s + m * (l.length + 5) + 8
  | 0, b, _ => by show ops b.s ≤ _; omega
  | m + 1, b, i => by
    unfold cmi
    have h1 := tr1_ops (N := N) (P := P) (T := T) (pl := pl) (b := b) (k := i % 4) (l := l)
    rw [Nat.succ_mul]
    split
    · have := cmi_ops (N := N) (P := P) (T := T) (pl := pl) (l := l) (gen := gen) m b (i + 1)
      omega
    · split
      · omega
      · split
        · have := oth_ops (P := P) (T := T) (pl := pl) 4 { (tr1 N P T pl b (i % 4) l).1 with cur := ((i % 4 : Nat) : Int), gen := gen } 0
          have h3 : ops ({ (tr1 N P T pl b (i % 4) l).1 with cur := ((i % 4 : Nat) : Int), gen := gen } : Bx).s = ops (tr1 N P T pl b (i % 4) l).1.s := rfl
          omega
        · have := cmi_ops (N := N) (P := P) (T := T) (pl := pl) (l := l) (gen := gen) m (tr1 N P T pl b (i % 4) l).1 (i + 1)
          omega
theorem cmt_ops {N P T : Nat} {pl : Pln} {b : Bx} {l : List (List Int)} {gen : Int} : ops (cmt N P T pl b l gen).1.s ≤ ops b.s + 8 * (l.length + 6) := by
  unfold cmt
  split
  · exact Nat.le_add_right _ _
  · have := cmi_ops (N := N) (P := P) (T := T) (pl := pl) (l := l) (gen := gen) 4 b (b.cur + 1).toNat
    omega
theorem tr2_j {N P T : Nat} {pl : Pln} {b : Bx} {k : Nat} {l : List (List Int)} (h : J P T b) (hb : b.bad k = false) (ha : (tr2 N P T pl b k l).2 ≠ 4) :
    J P T (tr2 N P T pl b k l).1 ∧ ((tr2 N P T pl b k l).2 = 0 ∨ (tr2 N P T pl b k l).2 = 5) ∧ ((tr2 N P T pl b k l).2 = 0 → (tr2 N P T pl b k l).1.bad k = false) := by
  unfold tr2 at ha ⊢
  simp only [] at ha ⊢
  split at ha
  · rename_i hq
    rw [if_pos hq]
    refine ⟨fun j hj => ?_, .inl (hq.resolve_right ha), fun _ => hb⟩
    by_cases e : j = k
    · subst e
      exact ⟨fun q => absurd (show at1 b.cln j false j = true from q) (by rw [at1_same]; exact Bool.false_ne_true), fun q => absurd (show b.bad j = true from q) (by rw [hb]; exact Bool.false_ne_true)⟩
    · exact jk_sam (h j hj) (sam_wri e _ _ _) (at1_other _ _ _ _ e) rfl rfl
  · rename_i hq
    rw [if_neg hq]
    split at ha
    · rename_i h4
      exact absurd h4 ha
    · rename_i h4
      rw [if_neg h4]
      refine ⟨(dst_j (fun j hj e => ?_) h4).1, .inr rfl, fun z => absurd (show (5 : Int) = 0 from z) (by decide)⟩
      exact jk_sam (h j hj) (sam_wri e _ _ _) (at1_other _ _ _ _ e) (at1_other _ _ _ _ e) rfl
theorem tr1_j {N P T : Nat} {pl : Pln} {b : Bx} {k : Nat} {l : List (List Int)} (h : J P T b) (hb : b.bad k = false) (ha : (tr1 N P T pl b k l).2 ≠ 4) :
    J P T (tr1 N P T pl b k l).1 ∧ ((tr1 N P T pl b k l).2 = 0 ∨ (tr1 N P T pl b k l).2 = 5) := by
  unfold tr1 at ha ⊢
  split at ha
  · rename_i hc
    rw [if_pos hc]
    have z := tr2_j h hb ha
    exact ⟨z.1, z.2.1⟩
  · rename_i hc
    rw [if_neg hc]
    split at ha
    · rename_i h0
      rw [if_pos h0]
      have z := tr2_j (dst_j (fun j hj _ => h j hj) (by rw [h0]; decide)).1 (by rw [dst_bad0 h0]; exact hb) ha
      exact ⟨z.1, z.2.1⟩
    · rename_i h0
      rw [if_neg h0]
      have z := dst_j (fun j hj _ => h j hj) ha
      exact ⟨z.1, z.2.1⟩
theorem oth_j {P T : Nat} {pl : Pln} : ∀ (m : Nat) (b : Bx) (k : Nat), J P T b → (oth P T pl m b k).2 ≠ 4 → J P T (oth P T pl m b k).1 ∧ (oth P T pl m b k).2 = 0 ∧ (oth P T pl m b k).1.cur = b.cur ∧ (oth P T pl m b k).1.gen = b.gen ∧
    (∀ j, j < k → (oth P T pl m b k).1.cln j = b.cln j ∧ (oth P T pl m b k).1.bad j = b.bad j) ∧ ∀ j, k ≤ j → j < k + m → (j : Int) ≠ b.cur → (oth P T pl m b k).1.cln j = true ∨ (oth P T pl m b k).1.bad j = true
  | 0, b, k, h, _ => ⟨h, rfl, rfl, rfl, fun _ _ => ⟨rfl, rfl⟩, fun j h1 h2 => absurd h2 (by omega)⟩
  | m + 1, b, k, h, ha => by
    unfold oth at ha ⊢
    split at ha
    · rename_i hq
      rw [if_pos hq]
      obtain ⟨z1, z2, z3, z4, z5, z6⟩ := oth_j m b (k + 1) h ha
      refine ⟨z1, z2, z3, z4, fun j hj => z5 j (by omega), fun j h1 h2 h3 => ?_⟩
      by_cases e : j = k
      · subst e
        rw [(z5 j (by omega)).1, (z5 j (by omega)).2]
        rcases hq with q | q | q
        · exact absurd q h3
        · exact .inl q
        · exact .inr q.1
      · exact z6 j (by omega) (by omega) h3
    · rename_i hq
      rw [if_neg hq]
      split at ha
      · rename_i h4
        exact absurd h4 ha
      · rename_i h4
        rw [if_neg h4]
        have dj := dst_j (fun j hj _ => h j hj) h4
        obtain ⟨z1, z2, z3, z4, z5, z6⟩ := oth_j m (dst P T pl b k).1 (k + 1) dj.1 ha
        refine ⟨z1, z2, z3.trans dst_cur.1, z4.trans dst_cur.2, fun j hj => ?_, fun j h1 h2 h3 => ?_⟩
        · have f := dst_fl (P := P) (T := T) (pl := pl) (b := b) (k := k) (j := j) (by omega)
          exact ⟨(z5 j (by omega)).1.trans f.1, (z5 j (by omega)).2.trans f.2.1⟩
        · by_cases e : j = k
          · subst e
            rw [(z5 j (by omega)).1, (z5 j (by omega)).2]
            exact dj.2.2.2
          · exact z6 j (by omega) (by omega) (by rw [dst_cur.1]; exact h3)
theorem cmi_j {N P T : Nat} {pl : Pln} {l : List (List Int)} {gen : Int} : ∀ (m : Nat) (b : Bx) (i : Nat), J P T b → (cmi N P T pl l gen m b i).2 ≠ 4 → J P T (cmi N P T pl l gen m b i).1 ∧ ((cmi N P T pl l gen m b i).2 = 0 ∨ (cmi N P T pl l gen m b i).2 = 15) ∧
    ((cmi N P T pl l gen m b i).2 = 0 → ∀ j : Nat, j < 4 → (j : Int) ≠ (cmi N P T pl l gen m b i).1.cur → (cmi N P T pl l gen m b i).1.cln j = true ∨ (cmi N P T pl l gen m b i).1.bad j = true)
  | 0, b, i, h, _ => ⟨h, .inr rfl, fun z => absurd (show (15 : Int) = 0 from z) (by decide)⟩
  | m + 1, b, i, h, ha => by
    unfold cmi at ha ⊢
    split at ha
    · rename_i hq
      rw [if_pos hq]
      exact cmi_j m b (i + 1) h ha
    · rename_i hq
      rw [if_neg hq]
      split at ha
      · rename_i h4
        exact absurd h4 ha
      · rename_i h4
        rw [if_neg h4]
        have hb : b.bad (i % 4) = false := by
          cases hz : b.bad (i % 4) with
          | false => rfl
          | true => exact absurd (.inr hz) hq
        have tj := tr1_j h hb h4
        split at ha
        · rename_i h0
          rw [if_pos h0]
          obtain ⟨z1, z2, z3, z4, z5, z6⟩ := oth_j 4 { (tr1 N P T pl b (i % 4) l).1 with cur := ((i % 4 : Nat) : Int), gen := gen } 0 tj.1 ha
          refine ⟨z1, .inl z2, fun _ j hj hne => z6 j (Nat.zero_le _) (by omega) (by rw [z3] at hne; exact hne)⟩
        · rename_i h0
          rw [if_neg h0]
          exact cmi_j m _ (i + 1) tj.1 ha
theorem cmt_j {N P T : Nat} {pl : Pln} {b : Bx} {l : List (List Int)} {gen : Int} (h : J P T b) (ha : (cmt N P T pl b l gen).2 ≠ 4) : J P T (cmt N P T pl b l gen).1 ∧ ((cmt N P T pl b l gen).2 = 0 ∨ (cmt N P T pl b l gen).2 = 15) ∧
    ((cmt N P T pl b l gen).2 = 0 → (∀ j, j < 4 → (cmt N P T pl b l gen).1.lk j = false) → ∀ j : Nat, j < 4 → (j : Int) ≠ (cmt N P T pl b l gen).1.cur → Fsh P T (cmt N P T pl b l gen).1.s j ∨ Nul P T (cmt N P T pl b l gen).1.s j) := by
  unfold cmt at ha ⊢
  split at ha
  · exact absurd rfl ha
  · rename_i h0
    rw [if_neg h0]
    obtain ⟨z1, z2, z3⟩ := cmi_j 4 b (b.cur + 1).toNat h ha
    refine ⟨z1, z2, fun a0 hl j hj hne => ?_⟩
    rcases z3 a0 j hj hne with q | q
    · exact .inl ((z1 j hj).1 q)
    · rcases (z1 j hj).2 q (hl j hj) with r | r
      · exact .inl ((z1 j hj).1 r)
      · exact .inr r
end Go.Proofs.YtakibiigcdgohaaGreatDoor.vb
namespace Go.Proofs.YtakibiigcdgohaaGreatDoor.he
open Go.RowKit Go.Proofs.YtakibiigcdgohaaGreatDoor.fa
set_option maxRecDepth 20000
def Vr (w : World) (c : Nat) (cs : List Value) : Prop := w.rangeAt c 0 cs ∧ w.there c 0 cs.length
theorem range_heap {w w' : World} {b p : Nat} {cs : List Value} (h : w.rangeAt b p cs) (e : w'.heap[b]? = w.heap[b]?) : w'.rangeAt b p cs := fun j v hv => by
  rw [World.cell?_of_block (w := w) (w' := w') (a := ⟨b, p + j, none⟩) e]; exact h j v hv
theorem there_heap {w w' : World} {b p n : Nat} (h : w.there b p n) (e : w'.heap[b]? = w.heap[b]?) : w'.there b p n := fun j hj => by
  rw [World.cell?_of_block (w := w) (w' := w') (a := ⟨b, p + j, none⟩) e, World.frozen?_of_block (w := w) (w' := w') (a := ⟨b, p + j, none⟩) e]
  exact h j hj
theorem range_lt {w : World} {b p : Nat} {cs : List Value} (h : w.rangeAt b p cs) (hp : 0 < cs.length) : b < w.heap.size := World.block_lt_of_cell? w _ (h 0 _ (List.getElem?_eq_getElem hp))
theorem Vr.heap {w w' : World} {c : Nat} {cs : List Value} (h : Vr w c cs) (e : w'.heap[c]? = w.heap[c]?) : Vr w' c cs := ⟨range_heap h.1 e, there_heap h.2 e⟩
theorem Vr.below {w w' : World} {c B : Nat} {cs : List Value} (h : Vr w c cs) (hb : Below B w w') (hc : c < B) : Vr w' c cs := h.heap (hb.block c hc)
theorem Vr.drewN {w : World} {c : Nat} {cs : List Value} (h : Vr w c cs) (n : Nat) : Vr (w.drewN n) c cs := h.heap rfl
theorem Vr.other {w : World} {c b o : Nat} {cs : List Value} (h : Vr w c cs) (u : Value) (hp : c ≠ b) : Vr (w.setCell ⟨b, o, none⟩ u) c cs := h.heap (Below.heap_setCell w ⟨b, o, none⟩ u c hp)
theorem Vr.cell {w : World} {c : Nat} {cs : List Value} (h : Vr w c cs) (j : Nat) (v : Value) (hv : cs[j]? = some v) : w.cell? ⟨c, j, none⟩ = some v := by
  have := h.1 j v hv
  rwa [Nat.zero_add] at this
theorem Vr.free {w : World} {c : Nat} {cs : List Value} (h : Vr w c cs) (j : Nat) (hj : j < cs.length) : w.frozen? ⟨c, j, none⟩ = false := by
  have := (h.2 j hj).2
  rwa [Nat.zero_add] at this
theorem Vr.set {w : World} {c : Nat} {cs : List Value} (h : Vr w c cs) (j : Nat) (hj : j < cs.length) (u : Value) : Vr (w.setCell ⟨c, j, none⟩ u) c (cs.set j u) := by
  have hc := h.cell j _ (List.getElem?_eq_getElem hj)
  refine ⟨fun i v hv => ?_, fun i hi => ?_⟩
  · rw [Nat.zero_add]
    rw [List.getElem?_set] at hv
    by_cases e : j = i
    · subst e
      rw [if_pos rfl, if_pos hj] at hv
      cases hv
      exact World.cell?_setCell_same _ _ _ hc
    · rw [if_neg e] at hv
      rw [World.cell?_setCell_other _ _ _ _ (by intro q; injection q with _ q2; omega)]
      exact h.cell i v hv
  · rw [List.length_set] at hi
    rw [Nat.zero_add]
    refine ⟨?_, by rw [World.frozen?_setCell]; exact h.free i hi⟩
    by_cases e : j = i
    · subst e
      rw [World.cell?_setCell_same _ _ _ hc]; rfl
    · rw [World.cell?_setCell_other _ _ _ _ (by intro q; injection q with _ q2; omega), h.cell i _ (List.getElem?_eq_getElem hi)]; rfl
theorem Vr.new (w : World) (t : TypeId) (cs : List Value) : Vr (w.alloc (.cells cs.toArray t)) w.heap.size cs := by
  have e := fun j => cell_of_row (w.alloc (.cells cs.toArray t)) w.heap.size j _ t (0, 0) (heap_alloc_last w _)
  refine ⟨fun j v hv => by rw [Nat.zero_add, e]; simpa using hv, fun j hj => ⟨?_, World.frozen?_alloc_at _ _ _ _ rfl⟩⟩
  rw [Nat.zero_add, e]
  simp [hj]
def Rowy (t : TypeId) (n : Nat) : Prop := (∃ d, Tryz.prog.underlying t = some d ∧ d.isRow = true) ∧ (Tryz.prog.info? t).map (·.size) = some n
theorem run_loadC {w : World} {b p : Nat} {t : TypeId} {cs : List Value} (ht : Rowy t cs.length) (h : w.rangeAt b p cs) : (loadVar t ⟨b, p, none⟩).run Tryz.prog w = .ok (.agg cs.toArray) w := by
  obtain ⟨⟨d, hu, hd⟩, hs⟩ := ht
  exact run_loadVar_mid (P := Tryz.prog) w b p t _ _ h hu hd hs
theorem load_cells {w : World} {b p : Nat} {t : TypeId} {cs : List Value} (ht : Rowy t cs.length) (h : w.rangeAt b p cs) : (Instr.loadAt t (.pointer (some ⟨b, p, none⟩))).run Tryz.prog w = .ok (.agg cs.toArray) w := by
  simp only [Instr.loadAt, Instr.sureAddr, Sem.run_bind, Sem.run_pure, Result.andThen_ok, run_loadC ht h]
theorem results_c {fn : Func} {p : Tmp} {t : TypeId} (h : fn.results = #[.cell p t]) (tmps : Array Value) (w : World) (b : Nat) (cs : List Value) (ht : Rowy t cs.length) (hp : tmps.getD p undef = .pointer (some ⟨b, 0, none⟩)) (ha : w.rangeAt b 0 cs) : (results fn tmps).run Tryz.prog w = .ok (.agg cs.toArray) w := by
  have hp' : tmps[p]?.getD undef = .pointer (some ⟨b, 0, none⟩) := by simpa using hp
  simp [results, h, hp', asAddr, run_loadC ht ha]
theorem results_cv {fn : Func} {p q : Tmp} {t : TypeId} (h : fn.results = #[.cell p t, .tmp q]) (tmps : Array Value) (w : World) (b : Nat) (cs : List Value) (v : Value) (ht : Rowy t cs.length) (hp : tmps.getD p undef = .pointer (some ⟨b, 0, none⟩)) (hq : tmps.getD q undef = v) (ha : w.rangeAt b 0 cs) : (results fn tmps).run Tryz.prog w = .ok (.tuple #[.agg cs.toArray, v]) w := by
  have hp' : tmps[p]?.getD undef = .pointer (some ⟨b, 0, none⟩) := by simpa using hp
  have hq' : tmps[q]?.getD undef = v := by simpa using hq
  simp [results, h, hp', hq', asAddr, run_loadC ht ha]
section
variable {ops : Array Oper} {rest : List Oper} {a : Act} {Q : Exit → Act → World → Prop}
theorem box_lawC {d : Option Tmp} {x : Operand} {t ty : TypeId} {pos : String} {af : Array Edge} (w : World) (cs : List Value) (hx : a.eval x = .agg cs.toArray)
    (hK : ∀ w', Vr w' w.heap.size cs → Below w.heap.size w w' → w.heap.size < w'.heap.size → wpList Tryz.prog ops Q rest (a.put d (.pointer (some ⟨w.heap.size, 0, none⟩))) w') :
    wpList Tryz.prog ops Q (⟨d, Op.box t x, ty, pos, af, none⟩ :: rest) a w := by
  refine wpList_plain rfl fun K hK' => ?_
  unfold Oper.wp
  simp [execOp, hx, Instr.box, newVar, newRow, Value.cells, Result.andThen]
  exact hK' _ _ (hK _ (Vr.new w t cs) ((Below.refl _ _).alloc (Nat.le_refl _) _) (by simp))
theorem new_lawC {d : Option Tmp} {t ty : TypeId} {pos : String} {af : Array Edge} (w : World) (cs : List Value) (hz : (Tryz.prog.info? t).map (fun i => (i.zero, i.size)) = some (some (.agg cs.toArray), cs.length))
    (hK : ∀ w', Vr w' w.heap.size cs → Below w.heap.size w w' → w.heap.size < w'.heap.size → wpList Tryz.prog ops Q rest (a.put d (.pointer (some ⟨w.heap.size, 0, none⟩))) w') :
    wpList Tryz.prog ops Q (⟨d, Op.alloc t, ty, pos, af, none⟩ :: rest) a w := by
  refine wpList_plain rfl fun K hK' => ?_
  have hz' := (zero_of_info hz).1
  unfold Oper.wp
  simp [execOp, Instr.alloc, hz', newVar, newRow, Value.cells, Result.andThen]
  exact hK' _ _ (hK _ (Vr.new w t cs) ((Below.refl _ _).alloc (Nat.le_refl _) _) (by simp))
theorem store_lawC {d : Option Tmp} {x y : Operand} {t ty : TypeId} {pos : String} {af : Array Edge} (w : World) (cs : List Value) (b p : Nat) (hx : a.eval x = .pointer (some ⟨b, p, none⟩)) (hy : a.eval y = .agg cs.toArray) (ht : w.there b p cs.length) (hs : (Tryz.prog.info? t).map (·.size) = some cs.length) (h1 : ∀ v ∈ cs, v.oneCell' = true)
    (hK : ∀ w', Hid (w' = w.setCells b p cs) → w'.rangeAt b p cs → w'.there b p cs.length → Below b w w' → wpList Tryz.prog ops Q rest (a.put d undef) w') :
    wpList Tryz.prog ops Q (⟨d, Op.store t x y, ty, pos, af, none⟩ :: rest) a w := by
  refine wpList_store_mid rfl t x y rfl b p cs.toArray hx hy (by simpa using ht) (by simpa using hs) (all_oneCell_toArray h1) ?_
  exact hK _ rfl (World.rangeAt_setCells_same w b p cs ht) (World.there_setCells ht b p _) (below_cells _ (Nat.le_refl _) _ _ (Below.refl _ _))
end
theorem results_cvv {fn : Func} {p q r : Tmp} {t : TypeId} (h : fn.results = #[.cell p t, .tmp q, .tmp r]) (tmps : Array Value) (w : World) (b : Nat) (cs : List Value) (v u : Value) (ht : Rowy t cs.length) (hp : tmps.getD p undef = .pointer (some ⟨b, 0, none⟩)) (hq : tmps.getD q undef = v) (hr : tmps.getD r undef = u) (ha : w.rangeAt b 0 cs) : (results fn tmps).run Tryz.prog w = .ok (.tuple #[.agg cs.toArray, v, u]) w := by
  have hp' : tmps[p]?.getD undef = .pointer (some ⟨b, 0, none⟩) := by simpa using hp
  have hq' : tmps[q]?.getD undef = v := by simpa using hq
  have hr' : tmps[r]?.getD undef = u := by simpa using hr
  simp [results, h, hp', hq', hr', asAddr, run_loadC ht ha]
def hv (k n c l e t : Int) : List Value := [.int .i64 k, .int .i64 n, .int .i64 c, .int .u32 l, .int .u64 e, .int .u64 t]
theorem rowy_head : Rowy 119 6 := ⟨⟨_, Tryz.underlying119, rfl⟩, by kernel_rfl⟩
theorem zero_head : (Tryz.prog.info? 119).map (fun i => (i.zero, i.size)) = some (some (.agg (hv 0 0 0 0 0 0).toArray), 6) := by kernel_rfl
theorem zero_nums : (Tryz.prog.info? 201).map (fun i => (i.zero, i.size)) = some (some (.agg (ints .u64 [0, 0, 0, 0, 0, 0, 0])), 7) := by kernel_rfl
theorem hv_one (k n c l e t : Int) : ∀ v ∈ hv k n c l e t, v.oneCell' = true := fun v hv' => by
  simp [hv] at hv'
  rcases hv' with rfl | rfl | rfl | rfl | rfl | rfl <;> rfl
def Tab (w : World) : Prop := ∀ i : Nat, i < 7 → w.cell? ⟨1, i, none⟩ = some (.int .i64 (gb [1, 1, 1, 1, 4, 8, 8] i))
theorem Tab.below {w w' : World} (h : Tab w) (hb : Below w.heap.size w w') : Tab w' := fun i hi => by
  have := h i hi
  rw [hb.cell (World.block_lt_of_cell? w _ this)]; exact this
theorem Tab.range {w : World} (h : Tab w) : w.rangeAt 1 0 (([1, 1, 1, 1, 4, 8, 8] : List Int).map (Value.int .i64)) := fun j v hv => by
  have hj : j < 7 := by have := (List.getElem?_eq_some_iff.1 hv).1; simpa using this
  have key : ∀ (l : List Int) j, j < l.length → (l.map (Value.int .i64))[j]? = some (.int .i64 (gb l j)) := fun l j h => by simp [gb, List.getD, h]
  rw [Nat.zero_add, h j hj, ← hv, key [1, 1, 1, 1, 4, 8, 8] j hj]
theorem rowy_sizes : Rowy 215 7 := ⟨⟨_, Tryz.underlying215, rfl⟩, by kernel_rfl⟩
theorem rowy_nums : Rowy 201 7 := ⟨⟨_, Tryz.underlying201, rfl⟩, by kernel_rfl⟩
theorem idx_law {ops : Array Oper} {rest : List Oper} {o : Oper} {a : Act} {Q : Exit → Act → World → Prop} (w : World) (hg : o.guard = none) (x y : Operand) (t : TypeId) (hop : o.op = Op.index t x y) (v i q : Value) (hx : a.eval x = v) (hy : a.eval y = i)
    (hr : (Instr.index t v i).run Tryz.prog w = .ok q w) (hK : wpList Tryz.prog ops Q rest (a.put o.dst q) w) : wpList Tryz.prog ops Q (o :: rest) a w := by
  refine wpList_plain hg fun K hK' => ?_
  unfold Oper.wp execOp
  simp only [hop, hx, hy, Sem.run_bind, Sem.run_pure, Result.andThen_ok, hr]
  exact hK' _ _ hK
end Go.Proofs.YtakibiigcdgohaaGreatDoor.he
namespace Go.Proofs.YtakibiigcdgohaaGreatDoor.he
open Go.RowKit Go.Proofs.YtakibiigcdgohaaGreatDoor.fa
set_option maxRecDepth 20000
theorem kind_any (k : Int) (w : World) (b : Bool) (hb : b = decide (1 ≤ k ∧ k ≤ 4)) :
    Calls Tryz.prog 131 #[.int .i64 k] w fun e w' => e = .returned (.bool b) ∧ w' = w := by
  have HB : Hid (b = decide (1 ≤ k ∧ k ≤ 4)) := hb
  clear hb
  by_cases a1 : 1 ≤ k
  · have l1 : k ≥ 1 := a1
    by_cases a2 : k ≤ 4
    · go_enter Tryz.func131, Tryz.ntmps131
      go_wp2
      go_ret
      exact ⟨ret_bool (by rw [HB.out]; simp; omega), rfl⟩
    · go_enter Tryz.func131, Tryz.ntmps131
      go_wp2
      go_ret
      exact ⟨ret_bool (by rw [HB.out]; simp; omega), rfl⟩
  · have l1 : ¬ k ≥ 1 := a1
    go_enter Tryz.func131, Tryz.ntmps131
    go_wp2
    go_ret
    exact ⟨ret_bool (by rw [HB.out]; simp; omega), rfl⟩
theorem byte_any (k : Int) (w : World) (b : Bool) (hb : b = decide (0 ≤ k ∧ k ≤ 255)) :
    Calls Tryz.prog 158 #[.int .i64 k] w fun e w' => e = .returned (.bool b) ∧ w' = w := by
  have HB : Hid (b = decide (0 ≤ k ∧ k ≤ 255)) := hb
  clear hb
  by_cases a1 : 0 ≤ k
  · have l1 : k ≥ 0 := a1
    by_cases a2 : k ≤ 255
    · go_enter Tryz.func158, Tryz.ntmps158
      go_wp2
      go_ret
      exact ⟨ret_bool (by rw [HB.out]; simp; omega), rfl⟩
    · go_enter Tryz.func158, Tryz.ntmps158
      go_wp2
      go_ret
      exact ⟨ret_bool (by rw [HB.out]; simp; omega), rfl⟩
  · have l1 : ¬ k ≥ 0 := a1
    go_enter Tryz.func158, Tryz.ntmps158
    go_wp2
    go_ret
    exact ⟨ret_bool (by rw [HB.out]; simp; omega), rfl⟩
def nv (xs : List Int) : List Value := xs.map (Value.int .u64)
theorem nv_one (xs : List Int) : ∀ v ∈ nv xs, v.oneCell' = true := fun v hv' => by
  simp only [nv, List.mem_map] at hv'
  obtain ⟨x, _, rfl⟩ := hv'
  rfl
theorem of_any (k n c l e t : Int) (w : World) (hk : 0 ≤ k ∧ k ≤ 255) (hn : 0 ≤ n ∧ n ≤ 255) (hc : 0 ≤ c ∧ c ≤ 255) (hl : 0 ≤ l ∧ l ≤ 4294967295) :
    Calls Tryz.prog 159 #[.agg (hv k n c l e t).toArray] w fun x w' => x = .returned (.agg (nv [k, n, c, 0, l, e, t]).toArray) ∧ Below w.heap.size w w' := by
  have k1 : IntKind.u64.wrap k = k := by rw [IntKind.wrap_u64]; omega
  have k2 : IntKind.u64.wrap n = n := by rw [IntKind.wrap_u64]; omega
  have k3 : IntKind.u64.wrap c = c := by rw [IntKind.wrap_u64]; omega
  have k4 : IntKind.u64.wrap l = l := by rw [IntKind.wrap_u64]; omega
  clear hk hn hc hl
  go_enter Tryz.func159, Tryz.ntmps159
  have t0 := tR
  go_wp2_with (first
    | (have q2 := t2; refine store_lawC _ (nv [k, n, c, 0, l, e, t]) w1.heap.size 0 rfl rfl HV2.out.2 rowy_nums.2 (nv_one _) ?_; intro w3 E3 R3 T3 B3; have HR : Hid (w3.rangeAt w1.heap.size 0 (nv [k, n, c, 0, l, e, t])) := R3; clear t2 E3 R3 T3)
    | (have q1 := t1; refine new_lawC _ (nv [0, 0, 0, 0, 0, 0, 0]) zero_nums ?_; intro w2 V2 B2 s2; have HV2 : Hid (Vr w2 w1.heap.size (nv [0, 0, 0, 0, 0, 0, 0])) := V2; have A2 := HA.out.below B2 s1; have c0 := A2.cell 0 _ rfl; have c1 := A2.cell 1 _ rfl; have c2 := A2.cell 2 _ rfl; have c3 := A2.cell 3 _ rfl; have c4 := A2.cell 4 _ rfl; have c5 := A2.cell 5 _ rfl; clear A2 V2 t1; have t2 := tR)
    | (have q0 := t0; refine box_lawC _ (hv k n c l e t) rfl ?_; intro w1 V1 B1 s1; have HA : Hid (Vr w1 w.heap.size (hv k n c l e t)) := V1; clear V1 t0; have t1 := tR))
  refine bodyPost_ret (v := .agg (nv [k, n, c, 0, l, e, t]).toArray) (results_c rfl _ _ w1.heap.size _ rowy_nums rfl HR.out) rfl ⟨rfl, ?_⟩
  exact (B1.trans (B2.mono (by omega))).trans (B3.mono (by omega))
theorem headOf_any (k n c z l e t : Int) (w : World) (hk : 0 ≤ k ∧ k ≤ 255) (hn : 0 ≤ n ∧ n ≤ 255) (hc : 0 ≤ c ∧ c ≤ 255) (hl : 0 ≤ l ∧ l ≤ 4294967295) :
    Calls Tryz.prog 129 #[.agg (nv [k, n, c, z, l, e, t]).toArray] w fun x w' => x = .returned (.agg (hv k n c l e t).toArray) ∧ Below w.heap.size w w' := by
  have k1 : IntKind.i64.wrap k = k := by rw [IntKind.wrap_i64]; omega
  have k2 : IntKind.i64.wrap n = n := by rw [IntKind.wrap_i64]; omega
  have k3 : IntKind.i64.wrap c = c := by rw [IntKind.wrap_i64]; omega
  have k4 : IntKind.u32.wrap l = l := by rw [IntKind.wrap_u32]; omega
  clear hk hn hc hl
  go_enter Tryz.func129, Tryz.ntmps129
  have t0 := tR
  go_wp2_with (first
    | (have q2 := t2; refine store_lawC _ (hv k n c l e t) w1.heap.size 0 rfl rfl HV2.out.2 rowy_head.2 (hv_one _ _ _ _ _ _) ?_; intro w3 E3 R3 T3 B3; have HR : Hid (w3.rangeAt w1.heap.size 0 (hv k n c l e t)) := R3; clear t2 E3 R3 T3)
    | (have q1 := t1; refine new_lawC _ (hv 0 0 0 0 0 0) zero_head ?_; intro w2 V2 B2 s2; have HV2 : Hid (Vr w2 w1.heap.size (hv 0 0 0 0 0 0)) := V2; have A2 := HA.out.below B2 s1; have c0 := A2.cell 0 _ rfl; have c1 := A2.cell 1 _ rfl; have c2 := A2.cell 2 _ rfl; have c4 := A2.cell 4 _ rfl; have c5 := A2.cell 5 _ rfl; have c6 := A2.cell 6 _ rfl; clear A2 V2 t1; have t2 := tR)
    | (have q0 := t0; refine box_lawC _ (nv [k, n, c, z, l, e, t]) rfl ?_; intro w1 V1 B1 s1; have HA : Hid (Vr w1 w.heap.size (nv [k, n, c, z, l, e, t])) := V1; clear V1 t0; have t1 := tR))
  refine bodyPost_ret (v := .agg (hv k n c l e t).toArray) (results_c rfl _ _ w1.heap.size _ rowy_head rfl HR.out) rfl ⟨rfl, ?_⟩
  exact (B1.trans (B2.mono (by omega))).trans (B3.mono (by omega))
end Go.Proofs.YtakibiigcdgohaaGreatDoor.he
