/- Texts put together. -/
import Derived.Test.YtikcohjhhoiakaaPk04
import Derived.Test.YtikcohjhhoiakaaPk00
import Derived.Test.YtikcohjhhoiakaaPk01
set_option maxHeartbeats 8000000
namespace Go.Proofs.Ytikcohjhhoiakaa.na
open Go.RowKit Go.Proofs.Ytikcohjhhoiakaa.fa
set_option maxRecDepth 20000
def St : Type := (Nat → Nat → List Int) × (Nat → Nat → Int) × (Nat → Int) × (Nat → Bool) × (Nat → Int) × Bool × Nat
def pgs (s : St) : Nat → Nat → List Int := s.1
def usd (s : St) : Nat → Nat → Int := s.2.1
def lsp (s : St) : Nat → Int := s.2.2.1
def scr (s : St) : Nat → Bool := s.2.2.2.1
def ers (s : St) : Nat → Int := s.2.2.2.2.1
def off (s : St) : Bool := s.2.2.2.2.2.1
def ops (s : St) : Nat := s.2.2.2.2.2.2
def at1 {α : Type} (f : Nat → α) (b : Nat) (x : α) (k : Nat) : α := if k = b then x else f k
def at2 {α : Type} (f : Nat → Nat → α) (b p : Nat) (x : α) (k j : Nat) : α := if k = b ∧ j = p then x else f k j
theorem at1_same {α : Type} (f : Nat → α) (b : Nat) (x : α) : at1 f b x b = x := if_pos rfl
theorem at1_other {α : Type} (f : Nat → α) (b : Nat) (x : α) (k : Nat) (h : k ≠ b) : at1 f b x k = f k := if_neg h
theorem at2_same {α : Type} (f : Nat → Nat → α) (b p : Nat) (x : α) : at2 f b p x b p = x := if_pos ⟨rfl, rfl⟩
theorem at2_other {α : Type} (f : Nat → Nat → α) (b p : Nat) (x : α) (k j : Nat) (h : ¬ (k = b ∧ j = p)) : at2 f b p x k j = f k j := if_neg h
def Pln : Type := Nat → Option (Bool × List Int)
def ans : Option (Bool × List Int) → Int
 | none => 0
 | some (c, _) => if c then 4 else 5
def crs : Option (Bool × List Int) → Bool
 | none => false
 | some (c, _) => c
def pgm (S : Nat) (o : Option (Bool × List Int)) (was b : List Int) : List Int := match o with
 | none => andl was b
 | some (true, m) => ofb S (torn was b m)
 | some (false, m) => ofb S (failed was b m (8 * S))
def jnd (P : Nat) (f : Nat → List Int) : List Int := (List.range P).flatMap f
def cut (S : Nat) (l : List Int) (p : Nat) : List Int := (l.drop (p * S)).take S
def pno (N P S : Nat) (s : St) (b p : Int) (d : List Int) : Option Int :=
 if off s = true then some 4
 else if ¬ (0 ≤ b ∧ b < N ∧ 0 ≤ p ∧ p < P ∧ d.length = S) then some 2
 else if scr s b.toNat = true ∨ 2 ≤ usd s b.toNat p.toNat then some 7
 else if usd s b.toNat p.toNat = 0 ∧ p ≤ lsp s b.toNat then some 6
 else none
def pdo (S : Nat) (pl : Pln) (s : St) (b p : Nat) (d : List Int) : St :=
 (at2 (pgs s) b p (pgm S (pl (ops s)) (pgs s b p) d), at2 (usd s) b p (usd s b p + 1), at1 (lsp s) b (max (lsp s b) p), scr s, ers s, crs (pl (ops s)), ops s + 1)
def eno (N : Nat) (s : St) (b : Int) : Option Int := if off s = true then some 4 else if ¬ (0 ≤ b ∧ b < N) then some 2 else none
def ern (P S : Nat) (o : Option (Bool × List Int)) (f : Nat → List Int) (p : Nat) : List Int := match o with
 | none => List.replicate S 255
 | some (_, m) => cut S (ofb (P * S) (erased (jnd P f) m)) p
def edo (P S : Nat) (pl : Pln) (s : St) (b : Nat) : St :=
 (fun k p => if k = b then ern P S (pl (ops s)) (pgs s b) p else pgs s k p,
  fun k p => if k = b ∧ (pl (ops s)).isNone = true then 0 else usd s k p, fun k => if k = b ∧ (pl (ops s)).isNone = true then -1 else lsp s k,
  fun k => if k = b ∧ (pl (ops s)).isNone = true then false else scr s k, at1 (ers s) b (ers s b + 1), crs (pl (ops s)), ops s + 1)
def scn (P S : Nat) (o : Option (Bool × List Int)) (f : Nat → List Int) (p : Nat) : List Int := match o with
 | none => List.replicate S 0
 | some (_, m) => cut S (ofb (P * S) (torn (jnd P f) (List.replicate (P * S) 0) m)) p
def sdo (P S : Nat) (pl : Pln) (s : St) (b : Nat) : St :=
 (fun k p => if k = b then scn P S (pl (ops s)) (pgs s b) p else pgs s k p, usd s, lsp s, at1 (scr s) b true, ers s, crs (pl (ops s)), ops s + 1)
def kno (N P S : Nat) (s : St) (b p a : Int) : Option Int := if ¬ off s = true then some 4 else if ¬ (0 ≤ b ∧ b < N ∧ 0 ≤ p ∧ p < P ∧ 0 ≤ a ∧ a < S) then some 2 else none
def kdo (s : St) (b p a : Nat) (x : Int) : St := (at2 (pgs s) b p ((pgs s b p).set a x), usd s, lsp s, scr s, ers s, off s, ops s)
def pwr (s : St) (on : Bool) : St := (pgs s, usd s, lsp s, scr s, ers s, !on, ops s)
def new (S : Nat) : St := (fun _ _ => List.replicate S 255, fun _ _ => 0, fun _ => -1, fun _ => false, fun _ => 0, false, 0)
def img (N P : Nat) (s : St) : List Int := (List.range N).flatMap fun b => jnd P (pgs s b)
def Wf (N P S : Nat) (s : St) : Prop := ∀ b, b < N → (∀ p, p < P → (pgs s b p).length = S ∧ AllB (pgs s b p) ∧ 0 ≤ usd s b p ∧ usd s b p ≤ 2) ∧ -1 ≤ lsp s b ∧ lsp s b < P ∧ 0 ≤ ers s b ∧ ers s b ≤ ops s
theorem jnd_len (P S : Nat) (f : Nat → List Int) (h : ∀ p, p < P → (f p).length = S) : (jnd P f).length = P * S := by
 induction P with
 | zero => simp [jnd]
 | succ P ih =>
  unfold jnd at ih ⊢
  rw [List.range_succ, List.flatMap_append, List.length_append, ih (fun p hp => h p (by omega))]
  simp [h P (by omega), Nat.succ_mul]
theorem jnd_succ (P : Nat) (f : Nat → List Int) : jnd (P + 1) f = jnd P f ++ f P := by
 unfold jnd
 rw [List.range_succ, List.flatMap_append]
 simp
theorem gb_app (xs ys : List Int) (k : Nat) : gb (xs ++ ys) k = if k < xs.length then gb xs k else gb ys (k - xs.length) := by
 unfold gb
 rw [List.getD_eq_getElem?_getD]
 by_cases h : k < xs.length
 ·rw [if_pos h, List.getElem?_append_left h]; rfl
 ·rw [if_neg h, List.getElem?_append_right (by omega)]; rfl
theorem jnd_gb (P S : Nat) (f : Nat → List Int) (h : ∀ p, p < P → (f p).length = S) (p j : Nat) (hp : p < P) (hj : j < S) : gb (jnd P f) (p * S + j) = gb (f p) j := by
 induction P with
 | zero => omega
 | succ P ih =>
  have hl := jnd_len P S f (fun p hp => h p (by omega))
  rw [jnd_succ, gb_app, hl]
  by_cases e : p = P
  ·subst e
   rw [if_neg (by omega), show p * S + j - p * S = j by omega]
  ·have : (p + 1) * S ≤ P * S := Nat.mul_le_mul_right S (by omega)
   rw [Nat.succ_mul] at this
   rw [if_pos (by omega)]
   exact ih (fun p hp => h p (by omega)) (by omega)
theorem jnd_all (P : Nat) (f : Nat → List Int) (h : ∀ p, p < P → AllB (f p)) : AllB (jnd P f) := allB_mem fun x hx => by
 obtain ⟨p, hp, hx⟩ := List.mem_flatMap.1 hx
 obtain ⟨i, hi, rfl⟩ := List.getElem_of_mem hx
 have := h p (List.mem_range.1 hp) i
 simpa [gb, List.getD, hi] using this
theorem cut_len (S : Nat) (l : List Int) (P p : Nat) (hl : l.length = P * S) (hp : p < P) : (cut S l p).length = S := by
 have : (p + 1) * S ≤ P * S := Nat.mul_le_mul_right S (by omega)
 rw [Nat.succ_mul] at this
 simp [cut]
 omega
theorem cut_gb (S : Nat) (l : List Int) (p j : Nat) (hj : j < S) : gb (cut S l p) j = gb l (p * S + j) := by
 simp [gb, List.getD, cut, hj]
theorem cut_all (S : Nat) (l : List Int) (p : Nat) (h : AllB l) : AllB (cut S l p) := fun j => by
 by_cases hj : j < S
 ·rw [cut_gb S l p j hj]; exact h _
 ·have : gb (cut S l p) j = 0 := by
   simp only [gb, List.getD, List.getElem?_eq_none (show (cut S l p).length ≤ j by simp [cut]; omega)]; rfl
  omega
theorem jnd_cut (P S : Nat) (l : List Int) (hl : l.length = P * S) : jnd P (cut S l) = l := by
 have hc : ∀ p, p < P → (cut S l p).length = S := fun p hp => cut_len S l P p hl hp
 refine ext_gb (by rw [jnd_len P S _ hc, hl]) fun k hk => ?_
 rw [jnd_len P S _ hc] at hk
 rcases Nat.eq_zero_or_pos S with h0 | h0
 ·subst h0; omega
 have e : k = k / S * S + k % S := by rw [Nat.mul_comm]; exact (Nat.div_add_mod k S).symm
 have hp : k / S < P := (Nat.div_lt_iff_lt_mul h0).2 hk
 have hm : k % S < S := Nat.mod_lt _ h0
 rw [e, jnd_gb P S _ hc (k / S) (k % S) hp hm, cut_gb S l _ _ hm]
theorem pgm_wf {was b : List Int} (S : Nat) (o : Option (Bool × List Int)) (hw : AllB was) (hl : was.length = S) : (pgm S o was b).length = S ∧ AllB (pgm S o was b) := by
 match o with
 | none => exact ⟨by rw [pgm, andl_len]; exact hl, andl_all _ _ hw⟩
 | some (true, m) => exact ⟨ofb_len _ _, ofb_all _ _⟩
 | some (false, m) => exact ⟨ofb_len _ _, ofb_all _ _⟩
theorem ern_wf (P S : Nat) (o : Option (Bool × List Int)) (f : Nat → List Int) (p : Nat) (hp : p < P) : (ern P S o f p).length = S ∧ AllB (ern P S o f p) := by
 match o with
 | none => exact ⟨by simp [ern], allB_replicate 255 S (by omega)⟩
 | some (c, m) => exact ⟨cut_len S _ P p (ofb_len _ _) hp, cut_all S _ p (ofb_all _ _)⟩
theorem scn_wf (P S : Nat) (o : Option (Bool × List Int)) (f : Nat → List Int) (p : Nat) (hp : p < P) : (scn P S o f p).length = S ∧ AllB (scn P S o f p) := by
 match o with
 | none => exact ⟨by simp [scn], allB_replicate 0 S (by omega)⟩
 | some (c, m) => exact ⟨cut_len S _ P p (ofb_len _ _) hp, cut_all S _ p (ofb_all _ _)⟩
theorem new_wf (N P S : Nat) : Wf N P S (new S) := fun b _ => ⟨fun p _ => ⟨by simp [new, pgs], allB_replicate 255 S (by omega), by simp [new, usd], by simp [new, usd]⟩, by simp [new, lsp], by simp [new, lsp]; omega, by simp [new, ers], by simp [new, ers, ops]⟩
theorem pwr_wf {N P S : Nat} {s : St} (h : Wf N P S s) (on : Bool) : Wf N P S (pwr s on) := h
theorem pno_none {N P S : Nat} {s : St} {b p : Int} {d : List Int} (h : pno N P S s b p d = none) : off s = false ∧ (0 ≤ b ∧ b < N ∧ 0 ≤ p ∧ p < P ∧ d.length = S) ∧ scr s b.toNat = false ∧ usd s b.toNat p.toNat < 2 ∧ ¬ (usd s b.toNat p.toNat = 0 ∧ p ≤ lsp s b.toNat) := by
 unfold pno at h
 split at h
 ·cases h
 rename_i h1
 split at h
 ·cases h
 rename_i h2
 split at h
 ·cases h
 rename_i h3
 split at h
 ·cases h
 rename_i h4
 exact ⟨Bool.eq_false_iff.2 h1, Classical.not_not.1 h2, Bool.eq_false_iff.2 fun e => h3 (Or.inl e), by have : ¬ 2 ≤ usd s b.toNat p.toNat := fun e => h3 (Or.inr e); omega, h4⟩
theorem eno_none {N : Nat} {s : St} {b : Int} (h : eno N s b = none) : off s = false ∧ 0 ≤ b ∧ b < N := by
 unfold eno at h
 split at h
 ·cases h
 rename_i h1
 split at h
 ·cases h
 rename_i h2
 have := Classical.not_not.1 h2
 exact ⟨Bool.eq_false_iff.2 h1, this.1, this.2⟩
theorem kno_none {N P S : Nat} {s : St} {b p a : Int} (h : kno N P S s b p a = none) : off s = true ∧ 0 ≤ b ∧ b < N ∧ 0 ≤ p ∧ p < P ∧ 0 ≤ a ∧ a < S := by
 unfold kno at h
 split at h
 ·cases h
 rename_i h1
 split at h
 ·cases h
 rename_i h2
 exact ⟨Classical.not_not.1 h1, Classical.not_not.1 h2⟩
theorem pdo_wf {N P S : Nat} {s : St} (h : Wf N P S s) (pl : Pln) (b p : Nat) (d : List Int) (hp : p < P) (hu : usd s b p < 2) : Wf N P S (pdo S pl s b p d) := fun k hk => by
 obtain ⟨h1, h2, h3, h4, h5⟩ := h k hk
 refine ⟨fun j hj => ?_, ?_, ?_, h4, ?_⟩
 ·obtain ⟨q1, q2, q3, q4⟩ := h1 j hj
  by_cases e : k = b ∧ j = p
  ·obtain ⟨rfl, rfl⟩ := e
   have w := pgm_wf (b := d) S (pl (ops s)) q2 q1
   refine ⟨?_, ?_, ?_, ?_⟩
   ·show (at2 (α := List Int) _ _ _ _ k j).length = S
    rw [at2_same]; exact w.1
   ·show AllB (at2 _ _ _ _ k j)
    rw [at2_same]; exact w.2
   ·show 0 ≤ at2 _ _ _ _ k j
    rw [at2_same]; omega
   ·show at2 _ _ _ _ k j ≤ 2
    rw [at2_same]; omega
  ·refine ⟨?_, ?_, ?_, ?_⟩
   ·show (at2 (α := List Int) _ _ _ _ k j).length = S
    rw [at2_other _ _ _ _ _ _ e]; exact q1
   ·show AllB (at2 _ _ _ _ k j)
    rw [at2_other _ _ _ _ _ _ e]; exact q2
   ·show 0 ≤ at2 _ _ _ _ k j
    rw [at2_other _ _ _ _ _ _ e]; exact q3
   ·show at2 _ _ _ _ k j ≤ 2
    rw [at2_other _ _ _ _ _ _ e]; exact q4
 ·show -1 ≤ at1 _ _ _ k
  unfold at1
  split
  ·rename_i e; subst e; omega
  ·exact h2
 ·show at1 _ _ _ k < (P : Int)
  unfold at1
  split
  ·rename_i e; subst e; omega
  ·exact h3
 ·show ers s k ≤ ((ops s + 1 : Nat) : Int)
  omega
theorem edo_wf {N P S : Nat} {s : St} (h : Wf N P S s) (pl : Pln) (b : Nat) : Wf N P S (edo P S pl s b) := fun k hk => by
 obtain ⟨h1, h2, h3, h4, h5⟩ := h k hk
 refine ⟨fun j hj => ?_, ?_, ?_, ?_, ?_⟩
 ·obtain ⟨q1, q2, q3, q4⟩ := h1 j hj
  refine ⟨?_, ?_, ?_, ?_⟩
  ·show (if k = b then ern P S (pl (ops s)) (pgs s b) j else pgs s k j).length = S
   split
   ·exact (ern_wf P S _ _ j hj).1
   ·exact q1
  ·show AllB (if k = b then ern P S (pl (ops s)) (pgs s b) j else pgs s k j)
   split
   ·exact (ern_wf P S _ _ j hj).2
   ·exact q2
  ·show 0 ≤ (if k = b ∧ (pl (ops s)).isNone = true then 0 else usd s k j)
   split
   ·omega
   ·exact q3
  ·show (if k = b ∧ (pl (ops s)).isNone = true then 0 else usd s k j) ≤ 2
   split
   ·omega
   ·exact q4
 ·show -1 ≤ (if k = b ∧ (pl (ops s)).isNone = true then -1 else lsp s k)
  split
  ·omega
  ·exact h2
 ·show (if k = b ∧ (pl (ops s)).isNone = true then -1 else lsp s k) < (P : Int)
  split
  ·omega
  ·exact h3
 ·show 0 ≤ at1 _ _ _ k
  unfold at1
  split
  ·rename_i e; subst e; omega
  ·exact h4
 ·show at1 _ _ _ k ≤ ((ops s + 1 : Nat) : Int)
  unfold at1
  split
  ·rename_i e; subst e; omega
  ·omega
theorem sdo_wf {N P S : Nat} {s : St} (h : Wf N P S s) (pl : Pln) (b : Nat) : Wf N P S (sdo P S pl s b) := fun k hk => by
 obtain ⟨h1, h2, h3, h4, h5⟩ := h k hk
 refine ⟨fun j hj => ?_, h2, h3, h4, ?_⟩
 ·obtain ⟨q1, q2, q3, q4⟩ := h1 j hj
  refine ⟨?_, ?_, q3, q4⟩
  ·show (if k = b then scn P S (pl (ops s)) (pgs s b) j else pgs s k j).length = S
   split
   ·exact (scn_wf P S _ _ j hj).1
   ·exact q1
  ·show AllB (if k = b then scn P S (pl (ops s)) (pgs s b) j else pgs s k j)
   split
   ·exact (scn_wf P S _ _ j hj).2
   ·exact q2
 ·show ers s k ≤ ((ops s + 1 : Nat) : Int)
  omega
theorem gb_set1 (xs : List Int) (a j : Nat) (x : Int) (ha : a < xs.length) : gb (xs.set a x) j = if j = a then x else gb xs j := by
 unfold gb
 rw [List.getD_eq_getElem?_getD, List.getD_eq_getElem?_getD, List.getElem?_set]
 by_cases e : a = j
 ·subst e; simp [ha]
 ·rw [if_neg e, if_neg (Ne.symm e)]
theorem kdo_wf {N P S : Nat} {s : St} (h : Wf N P S s) (b p a : Nat) (x : Int) (hx : 0 ≤ x ∧ x ≤ 255) (ha : a < S) : Wf N P S (kdo s b p a x) := fun k hk => by
 obtain ⟨h1, h2⟩ := h k hk
 refine ⟨fun j hj => ?_, h2⟩
 obtain ⟨q1, q2, q34⟩ := h1 j hj
 refine ⟨?_, ?_, q34⟩
 ·show (at2 (α := List Int) _ _ _ _ k j).length = S
  unfold at2
  split
  ·rename_i e; obtain ⟨rfl, rfl⟩ := e; rw [List.length_set]; exact q1
  ·exact q1
 ·show AllB (at2 _ _ _ _ k j)
  unfold at2
  split
  ·rename_i e; obtain ⟨rfl, rfl⟩ := e
   intro i
   rw [gb_set1 _ _ _ _ (by omega)]
   split
   ·exact hx
   ·exact q2 i
  ·exact q2
theorem jnd_congr {f g : Nat → List Int} : ∀ {P : Nat}, (∀ p, p < P → f p = g p) → jnd P f = jnd P g
 | 0, _ => rfl
 | P + 1, h => by rw [jnd_succ, jnd_succ, jnd_congr (P := P) fun p hp => h p (by omega), h P (by omega)]
theorem img_len {N P S : Nat} {s : St} (h : Wf N P S s) : (img N P s).length = N * (P * S) :=
 jnd_len N (P * S) (fun b => jnd P (pgs s b)) fun b hb => jnd_len P S _ fun p hp => ((h b hb).1 p hp).1
def Opn : Type := Int × Int × Int × List Int × Int
def opn (k b p : Int) (d : List Int) (e : Int) : Opn := (k, b, p, d, e)
def cnt (b p : Int) (c : Int) (o : Opn) : Int := (if o.1 = 2 ∧ o.2.2.2.2 = 0 ∧ o.2.1 = b then 0 else c) + if o.1 = 1 ∧ o.2.1 = b ∧ o.2.2.1 = p then 1 else 0
def cnts (l : List Opn) (b p : Int) : Int := l.foldl (cnt b p) 0
theorem cnts_snoc (l : List Opn) (o : Opn) (b p : Int) : cnts (l ++ [o]) b p = cnt b p (cnts l b p) o := by simp [cnts]
def Two2 (l : List Opn) : Prop := ∀ i (o : Opn), l[i]? = some o → o.1 = 1 → cnts (l.take (i + 1)) o.2.1 o.2.2.1 ≤ 2
theorem two_snoc {l : List Opn} {o : Opn} (h : Two2 l) (ho : o.1 = 1 → cnts (l ++ [o]) o.2.1 o.2.2.1 ≤ 2) : Two2 (l ++ [o]) := fun i q hq h1 => by
 rcases Nat.lt_trichotomy i l.length with e | e | e
 ·rw [List.getElem?_append_left e] at hq
  rw [List.take_append_of_le_length (by omega)]
  exact h i q hq h1
 ·subst e
  rw [List.getElem?_append_right (Nat.le_refl _), Nat.sub_self] at hq
  have : o = q := by simpa using hq
  subst this
  rw [List.take_of_length_le (by simp)]
  exact ho h1
 ·rw [List.getElem?_eq_none (by simp; omega)] at hq
  cases hq
def Trc (N P : Nat) (s : St) (l : List Opn) : Prop := l.length = ops s ∧ Two2 l ∧ ∀ b p : Nat, b < N → p < P → cnts l b p = usd s b p
theorem trc_new (N P S : Nat) : Trc N P (new S) [] := ⟨rfl, fun i o h => by simp at h, fun _ _ _ _ => rfl⟩
theorem trc_pwr {N P : Nat} {s : St} {l : List Opn} (h : Trc N P s l) (on : Bool) : Trc N P (pwr s on) l := h
theorem trc_kdo {N P : Nat} {s : St} {l : List Opn} (h : Trc N P s l) (b p a : Nat) (x : Int) : Trc N P (kdo s b p a x) l := h
theorem trc_pdo {N P S : Nat} {s : St} {l : List Opn} (h : Trc N P s l) (pl : Pln) (b p : Nat) (d : List Int) (e : Int) (hb : b < N) (hp : p < P) (hu : usd s b p < 2) : Trc N P (pdo S pl s b p d) (l ++ [opn 1 b p d e]) := by
 obtain ⟨h1, h2, h3⟩ := h
 have key : ∀ k j : Nat, k < N → j < P → cnts (l ++ [opn 1 b p d e]) k j = at2 (usd s) b p (usd s b p + 1) k j := fun k j hk hj => by
  rw [cnts_snoc, h3 k j hk hj]
  show (if (1 : Int) = 2 ∧ e = 0 ∧ (b : Int) = k then 0 else usd s k j) + (if (1 : Int) = 1 ∧ (b : Int) = k ∧ (p : Int) = j then 1 else 0) = _
  rw [if_neg (by omega)]
  by_cases q : k = b ∧ j = p
  ·obtain ⟨rfl, rfl⟩ := q
   rw [at2_same, if_pos ⟨rfl, rfl, rfl⟩]
  ·rw [at2_other _ _ _ _ _ _ q, if_neg (by omega), Int.add_zero]
 refine ⟨by rw [List.length_append, h1]; rfl, two_snoc h2 fun _ => ?_, key⟩
 show cnts (l ++ [opn 1 b p d e]) (b : Int) (p : Int) ≤ 2
 rw [key b p hb hp, at2_same]; omega
theorem trc_edo {N P S : Nat} {s : St} {l : List Opn} (h : Trc N P s l) (pl : Pln) (b : Nat) (d : List Int) : Trc N P (edo P S pl s b) (l ++ [opn 2 b 0 d (ans (pl (ops s)))]) := by
 obtain ⟨h1, h2, h3⟩ := h
 refine ⟨by rw [List.length_append, h1]; rfl, two_snoc h2 (fun q => absurd (show (2 : Int) = 1 from q) (by decide)), fun k j hk hj => ?_⟩
 rw [cnts_snoc, h3 k j hk hj]
 show (if (2 : Int) = 2 ∧ ans (pl (ops s)) = 0 ∧ (b : Int) = k then 0 else usd s k j) + (if (2 : Int) = 1 ∧ (b : Int) = k ∧ (0 : Int) = j then 1 else 0) = if k = b ∧ (pl (ops s)).isNone = true then 0 else usd s k j
 rw [if_neg (show ¬ ((2 : Int) = 1 ∧ (b : Int) = k ∧ (0 : Int) = j) by omega), Int.add_zero]
 have ha : ans (pl (ops s)) = 0 ↔ (pl (ops s)).isNone = true := by
  match pl (ops s) with
  | none => simp [ans]
  | some (true, m) => simp [ans]
  | some (false, m) => simp [ans]
 by_cases e : k = b ∧ (pl (ops s)).isNone = true
 ·rw [if_pos e, if_pos ⟨rfl, ha.2 e.2, by omega⟩]
 ·rw [if_neg e, if_neg fun q => e ⟨by omega, ha.1 q.2.1⟩]
theorem trc_sdo {N P S : Nat} {s : St} {l : List Opn} (h : Trc N P s l) (pl : Pln) (b : Nat) (d : List Int) (e : Int) : Trc N P (sdo P S pl s b) (l ++ [opn 3 b 0 d e]) := by
 obtain ⟨h1, h2, h3⟩ := h
 refine ⟨by rw [List.length_append, h1]; rfl, two_snoc h2 (fun q => absurd (show (3 : Int) = 1 from q) (by decide)), fun k j hk hj => ?_⟩
 rw [cnts_snoc, h3 k j hk hj]
 show (if (3 : Int) = 2 ∧ e = 0 ∧ (b : Int) = k then 0 else usd s k j) + (if (3 : Int) = 1 ∧ (b : Int) = k ∧ (0 : Int) = j then 1 else 0) = usd s k j
 rw [if_neg (by omega), if_neg (by omega), Int.add_zero]
end Go.Proofs.Ytikcohjhhoiakaa.na
namespace Go.Proofs.Ytikcohjhhoiakaa.ge
open Go.RowKit
set_option maxRecDepth 20000
def qt (u s : Nat) : Nat := (s + u - 1) / u + 2
theorem qt_le (u s k : Nat) (hu : 0 < u) : qt u s ≤ k + 2 ↔ s ≤ k * u := by
 unfold qt
 constructor
 ·intro h
  have h1 : (s + u - 1) / u ≤ k := by omega
  have h2 : s + u - 1 < (k + 1) * u := by
   rcases Nat.lt_or_ge (s + u - 1) ((k + 1) * u) with h | h
   ·exact h
   ·have := (Nat.le_div_iff_mul_le hu).2 h
    omega
  rw [Nat.add_mul] at h2
  omega
 ·intro h
  have h2 : (s + u - 1) / u < k + 1 := by
   rw [Nat.div_lt_iff_lt_mul hu, Nat.add_mul]
   omega
  omega
theorem qt_two (u s : Nat) : 2 ≤ qt u s := Nat.le_add_left 2 _
theorem qt_count (u s n : Nat) (hu : 0 < u) (h1 : s ≤ n * u) (h2 : ∀ m, m < n → m * u < s) : qt u s = n + 2 := by
 have a := (qt_le u s n hu).2 h1
 rcases Nat.lt_or_ge (qt u s) (n + 2) with h | h
 ·have h3 := qt_two u s
  have := (qt_le u s (qt u s - 2) hu).1 (by omega)
  have := h2 (qt u s - 2) (by omega)
  omega
 ·omega
def Kept (g : List Int) : Prop := (7 ≤ gb g 0 ∧ gb g 0 ≤ 64) ∧ (4 ≤ gb g 1 ∧ gb g 1 ≤ 32) ∧ (32 ≤ gb g 2 ∧ gb g 2 ≤ 4096) ∧ (0 ≤ gb g 3 ∧ gb g 3 ≤ 8) ∧ (1 ≤ gb g 4 ∧ gb g 4 ≤ 1000) ∧ (1 ≤ gb g 5 ∧ gb g 5 ≤ 1000)
def rec (g : List Int) : Int := (624 + gb g 2 - 1) / gb g 2
def Rt (g : List Int) : Prop := Kept g ∧ gb g 2 % 16 = 0 ∧ rec g ≤ gb g 1 ∧ gb g 3 + 3 ≤ gb g 0 - 4
theorem und_geo : ∃ d, Try.prog.underlying 23 = some d ∧ d.isRow = true := ⟨_, Try.underlying23, rfl⟩
theorem size_geo : (Try.prog.info? 23).map (·.size) = some 6 := by kernel_rfl
theorem load_geo {w : World} {b : Nat} {g : List Int} (h : Ar w b 0 .i64 g) (hl : g.length = 6) : (Instr.loadAt 23 (.pointer (some ⟨b, 0, none⟩))).run Try.prog w = .ok (.agg (ints .i64 g)) w := by
 obtain ⟨d, hu, hd⟩ := und_geo
 have := run_loadVar_mid (P := Try.prog) w b 0 23 _ _ h.1 hu hd (by rw [size_geo]; simp [hl])
 simp only [Instr.loadAt, Instr.sureAddr, Sem.run_bind, Sem.run_pure, Result.andThen_ok, this]
 rfl
section
variable {ops : Array Oper} {rest : List Oper} {a : Act} {Q : Exit → Act → World → Prop}
theorem load_lawS {d : Option Tmp} {t : TypeId} {x : Operand} {ty : TypeId} {pos : String} {af : Array Edge} {gd : Option (Nat × Bool)} (w : World) (hw : Region.wanted ⟨d, Op.load t x, ty, pos, af, gd⟩ (yielded ops a.tmps) = true) (p v : Value) (hx : a.eval x = p) (h : (Instr.loadAt t p).run Try.prog w = .ok v w)
  (hK : wpList Try.prog ops Q rest (a.put d v) w) : wpList Try.prog ops Q (⟨d, Op.load t x, ty, pos, af, gd⟩ :: rest) a w := by
 refine wpList_step fun K hK' => ?_
 rw [if_pos hw]
 unfold Oper.wp execOp
 simp only [hx, Sem.run_bind, Result.andThen_ok, h]
 exact hK' _ _ hK
end
theorem geo_cells {w : World} {b : Nat} {g : List Int} (h : Ar w b 0 .i64 g) (hl : g.length = 6) :
  w.cell? ⟨b, 0, none⟩ = some (.int .i64 (gb g 0)) ∧ w.cell? ⟨b, 1, none⟩ = some (.int .i64 (gb g 1)) ∧ w.cell? ⟨b, 2, none⟩ = some (.int .i64 (gb g 2)) ∧ w.cell? ⟨b, 3, none⟩ = some (.int .i64 (gb g 3)) ∧
  w.cell? ⟨b, 4, none⟩ = some (.int .i64 (gb g 4)) ∧ w.cell? ⟨b, 5, none⟩ = some (.int .i64 (gb g 5)) :=
 ⟨h.cell0 0 (by omega), h.cell0 1 (by omega), h.cell0 2 (by omega), h.cell0 3 (by omega), h.cell0 4 (by omega), h.cell0 5 (by omega)⟩
theorem parts_any (n e : Int) (w : World) (hn : 1 ≤ n ∧ n ≤ 65535) (he : 1 ≤ e ∧ e ≤ 65535) :
  Calls Try.prog 83 #[.int .i64 n, .int .i64 e] w fun x w' => x = .returned (.int .i64 ((n + e - 1) / e)) ∧ w' = w := by
 have h0 : 0 ≤ (n + e - 1) / e := Int.ediv_nonneg (by omega) (by omega)
 have h1 : (n + e - 1) / e ≤ n + e - 1 := Int.ediv_le_self _ (by omega)
 have q1 : (n + e - 1).tdiv e = (n + e - 1) / e := Int.tdiv_eq_ediv_of_nonneg (by omega)
 generalize (n + e - 1) / e = z at *
 have q2 : IntKind.i64.wrap (n + e) = n + e := by rw [IntKind.wrap_i64]; omega
 have q3 : IntKind.i64.wrap (n + e - 1) = n + e - 1 := by rw [IntKind.wrap_i64]; omega
 have q4 : IntKind.i64.wrap z = z := by rw [IntKind.wrap_i64]; omega
 have q5 : e ≠ 0 := by omega
 go_enter Try.func83, Try.ntmps83
 go_wp2
 go_ret
 exact ⟨rfl, rfl⟩
theorem in_yes (n a b : Int) (w : World) (hn : a ≤ n ∧ n ≤ b) :
  Calls Try.prog 38 #[.int .i64 n, .int .i64 a, .int .i64 b] w fun x w' => x = .returned (.bool true) ∧ w' = w := by
 obtain ⟨h1, h2⟩ := hn
 go_enter Try.func38, Try.ntmps38
 go_wp2
 go_ret
 exact ⟨rfl, rfl⟩
theorem in_no (n a b : Int) (w : World) (hn : ¬ (a ≤ n ∧ n ≤ b)) :
  Calls Try.prog 38 #[.int .i64 n, .int .i64 a, .int .i64 b] w fun x w' => x = .returned (.bool false) ∧ w' = w := by
 by_cases h1 : a ≤ n
 ·have h2 : ¬ n ≤ b := fun h => hn ⟨h1, h⟩
  clear hn
  go_enter Try.func38, Try.ntmps38
  go_wp2
  go_ret
  exact ⟨rfl, rfl⟩
 ·clear hn
  go_enter Try.func38, Try.ntmps38
  go_wp2
  go_ret
  exact ⟨rfl, rfl⟩
theorem db_any (g : List Int) (w : World) (hl : g.length = 6) (hk : Kept g) :
  Calls Try.prog 58 #[.agg (ints .i64 g)] w fun x w' => x = .returned (.int .i64 (gb g 0 - 4)) ∧ Below w.heap.size w w' := by
 have q1 : IntKind.i64.wrap (gb g 0 - 4) = gb g 0 - 4 := by obtain ⟨h, -⟩ := hk; rw [IntKind.wrap_i64]; omega
 clear hk
 generalize hq : gb g 0 - 4 = z at *
 go_enter Try.func58, Try.ntmps58
 go_wp2_with (refine box_lawF _ rfl (.tmp 0) 23 rfl .i64 g rfl ?_; intro w1 X1 B1 L1; obtain ⟨f0, f1, f2, f3, f4, f5⟩ := geo_cells X1 hl)
 go_ret
 exact ⟨rfl, B1⟩
theorem rec_any (g : List Int) (w : World) (hl : g.length = 6) (hk : Kept g) :
  Calls Try.prog 57 #[.agg (ints .i64 g)] w fun x w' => x = .returned (.int .i64 (rec g)) ∧ Below w.heap.size w w' := by
 have S : Hid (∀ w, Calls Try.prog 83 #[.int .i64 624, .int .i64 (gb g 2)] w fun x w' => x = .returned (.int .i64 (rec g)) ∧ w' = w) := fun w => parts_any 624 (gb g 2) w (by omega) (by obtain ⟨-, -, h, -⟩ := hk; omega)
 clear hk
 generalize rec g = z at *
 go_enter Try.func57, Try.ntmps57
 go_wp2_with (first
  | (go_at_call 83; refine (S.out _).mono ?_; rintro e wx ⟨rfl, hw⟩; obtain rfl := hw.symm)
  | (refine box_lawF _ rfl (.tmp 0) 23 rfl .i64 g rfl ?_; intro w1 X1 B1 L1; obtain ⟨f0, f1, f2, f3, f4, f5⟩ := geo_cells X1 hl))
 go_ret
 exact ⟨rfl, B1⟩
end Go.Proofs.Ytikcohjhhoiakaa.ge
