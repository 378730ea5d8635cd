/- Parts of the proof: what KeyboxGone reaches. No claim of its own. -/
import Derived.Deep.WholeRow
import Derived.Deep.MidRow
import Derived.Laws.StructEq
import Derived.WalkKit
import Derived.Deep.QuietTactic
import Derived.Laws.AppendOwnNone
import Derived.Deep.RegionHeld3
import Derived.WalkSmall
import Derived.ProofKit
import Derived.OpenShut
import Derived.BigQuiet
import Derived.Lib.SliceRun
import Derived.Test.YtakibiigcdgohaaGreatDoorD00
import Derived.Test.YtakibiigcdgohaaGreatDoorD01
import Derived.Test.YtakibiigcdgohaaGreatDoorD02
set_option maxHeartbeats 8000000
namespace Go.Proofs.YtakibiigcdgohaaGreatDoor.fa
open Go.RowKit
set_option maxRecDepth 20000
def andl (xs ys : List Int) : List Int := (List.range xs.length).map fun k => (((gb xs k).toNat &&& (gb ys k).toNat : Nat) : Int)
theorem andl_len (xs ys : List Int) : (andl xs ys).length = xs.length := by simp [andl]
theorem andl_gb (xs ys : List Int) (k : Nat) (h : k < xs.length) : gb (andl xs ys) k = (((gb xs k).toNat &&& (gb ys k).toNat : Nat) : Int) := by simp [gb, List.getD, andl, h]
theorem andl_ofb (xs ys : List Int) (hx : AllB xs) : andl xs ys = ofb xs.length fun i => hs xs i && hs ys i := by
  refine ext_gb (by rw [andl_len, ofb_len]) fun k hk => ?_
  rw [andl_len] at hk
  rw [andl_gb xs ys k hk, ofb_gb _ _ k hk, ands_ofb xs ys hx k]
theorem andl_all (xs ys : List Int) (hx : AllB xs) : AllB (andl xs ys) := by rw [andl_ofb xs ys hx]; exact ofb_all _ _
end Go.Proofs.YtakibiigcdgohaaGreatDoor.fa
namespace Go.Proofs.YtakibiigcdgohaaGreatDoor.fa
open Go.RowKit
set_option maxRecDepth 20000
theorem mb_bit (m : List Int) (k t : Nat) (ht : t < 8) : bit (mb m k).toNat t = mk m (8 * k + t) := by
  rw [mb_mk, show (8 * k + t) / 8 = k by omega, show (8 * k + t) % 8 = t by omega]
theorem pgl_ofb (xs ys : List Int) (D : Nat → Int) (c : Nat → Bool) (hx : AllB xs) (hy : AllB ys) (hc : ∀ k t, k < xs.length → t < 8 → c (8 * k + t) = (hs xs (8 * k + t) && !(due xs ys (8 * k + t) && bit (D k).toNat t))) : pgl xs ys D = ofb xs.length c := by
  refine ext_gb (by rw [pgl_len, ofb_len]) fun k hk => ?_
  rw [pgl_len] at hk
  have b1 := hx k
  have b2 := tc_bd xs ys hx k
  have l1 : (tc xs ys k).toNat &&& (D k).toNat ≤ (tc xs ys k).toNat := Nat.and_le_left
  have l2 : (gb xs k).toNat &&& (255 - ((tc xs ys k).toNat &&& (D k).toNat)) ≤ (gb xs k).toNat := Nat.and_le_left
  rw [pgl_gb xs ys D k hk, ofb_gb _ _ k hk]
  have := byte_bits ((gb xs k).toNat &&& (255 - ((tc xs ys k).toNat &&& (D k).toNat))) (by omega) c k fun t ht => by
    rw [hc k t hk ht, bit_and, bit_not _ (by omega) t ht, bit_and, tc_bit xs ys hy k t ht, hs_at xs k t ht]
  rw [this]
theorem pgl_torn (xs ys m : List Int) (hx : AllB xs) (hy : AllB ys) : pgl xs ys (mb m) = ofb xs.length (torn xs ys m) :=
  pgl_ofb xs ys _ _ hx hy fun k t _ ht => by rw [mb_bit m k t ht]; rfl
theorem pgl_failed (xs ys m : List Int) (p z : Nat) (hx : AllB xs) (hy : AllB ys) (h : IsL xs ys p z) : pgl xs ys (dn m p z) = ofb xs.length (failed xs ys m (8 * xs.length)) :=
  pgl_ofb xs ys _ _ hx hy fun k t _ ht => by
    have key : bit (dn m p z k).toNat t = (mk m (8 * k + t) && !(8 * k + t + 1 == lst xs ys (8 * xs.length))) := by
      unfold dn
      rcases h with ⟨rfl, rfl, hl⟩ | ⟨t0, ht0, hp, rfl, hl⟩
      · rw [hl]
        by_cases e : k = 0
        · rw [if_pos e, Int.toNat_natCast, bit_and, bit_not 0 (by omega) t ht, bit_zero, mb_bit m k t ht]; simp
        · rw [if_neg e, mb_bit m k t ht]; simp
      · rw [hl]
        have l2 : 2 ^ t0 ≤ 128 := Nat.pow_le_pow_right (by omega) (show t0 ≤ 7 by omega)
        by_cases e : k = p
        · subst e
          rw [if_pos rfl, Int.toNat_natCast, bit_and, bit_not _ (by omega) t ht, bit_pow t0 ht0 t ht, mb_bit m k t ht]
          congr 2
          rw [Bool.eq_iff_iff]
          simp
        · rw [if_neg e, mb_bit m k t ht, show (8 * k + t + 1 == 8 * p + t0 + 1) = false by simp; omega]; simp
    rw [key]
    unfold failed
    cases hs xs (8 * k + t) <;> cases due xs ys (8 * k + t) <;> cases mk m (8 * k + t) <;> simp
theorem stl_erased (xs m : List Int) (hx : AllB xs) (hm : AllB m) : stl xs (mb m) = ofb xs.length (erased xs m) := by
  refine ext_gb (by rw [stl_len, ofb_len]) fun k hk => ?_
  rw [stl_len] at hk
  have b1 := hx k
  have b2 := mb_bd hm k
  have l := Nat.or_lt_two_pow (n := 8) (show (gb xs k).toNat < 2 ^ 8 by omega) (show (mb m k).toNat < 2 ^ 8 by omega)
  rw [stl_gb xs _ k hk, ofb_gb _ _ k hk]
  have := byte_bits ((gb xs k).toNat ||| (mb m k).toNat) (by omega) (erased xs m) k fun t ht => by
    rw [bit_or, mb_bit m k t ht]
    unfold erased
    rw [hs_at xs k t ht]
  rw [this]
end Go.Proofs.YtakibiigcdgohaaGreatDoor.fa
namespace Go.Proofs.YtakibiigcdgohaaGreatDoor.na
open Go.RowKit Go.Proofs.YtakibiigcdgohaaGreatDoor.fa
set_option maxRecDepth 20000
def St : Type := (Nat → Nat → List Int) × (Nat → Nat → Int) × (Nat → Int) × (Nat → Bool) × (Nat → Int) × Bool × Nat
def pgs (s : St) : Nat → Nat → List Int := s.1
def usd (s : St) : Nat → Nat → Int := s.2.1
def lsp (s : St) : Nat → Int := s.2.2.1
def scr (s : St) : Nat → Bool := s.2.2.2.1
def ers (s : St) : Nat → Int := s.2.2.2.2.1
def off (s : St) : Bool := s.2.2.2.2.2.1
def ops (s : St) : Nat := s.2.2.2.2.2.2
def at1 {α : Type} (f : Nat → α) (b : Nat) (x : α) (k : Nat) : α := if k = b then x else f k
def at2 {α : Type} (f : Nat → Nat → α) (b p : Nat) (x : α) (k j : Nat) : α := if k = b ∧ j = p then x else f k j
theorem at1_same {α : Type} (f : Nat → α) (b : Nat) (x : α) : at1 f b x b = x := if_pos rfl
theorem at1_other {α : Type} (f : Nat → α) (b : Nat) (x : α) (k : Nat) (h : k ≠ b) : at1 f b x k = f k := if_neg h
theorem at2_same {α : Type} (f : Nat → Nat → α) (b p : Nat) (x : α) : at2 f b p x b p = x := if_pos ⟨rfl, rfl⟩
theorem at2_other {α : Type} (f : Nat → Nat → α) (b p : Nat) (x : α) (k j : Nat) (h : ¬ (k = b ∧ j = p)) : at2 f b p x k j = f k j := if_neg h
def Pln : Type := Nat → Option (Bool × List Int)
def ans : Option (Bool × List Int) → Int
  | none => 0
  | some (c, _) => if c then 4 else 5
def crs : Option (Bool × List Int) → Bool
  | none => false
  | some (c, _) => c
def pgm (S : Nat) (o : Option (Bool × List Int)) (was b : List Int) : List Int := match o with
  | none => andl was b
  | some (true, m) => ofb S (torn was b m)
  | some (false, m) => ofb S (failed was b m (8 * S))
def jnd (P : Nat) (f : Nat → List Int) : List Int := (List.range P).flatMap f
def cut (S : Nat) (l : List Int) (p : Nat) : List Int := (l.drop (p * S)).take S
def pno (N P S : Nat) (s : St) (b p : Int) (d : List Int) : Option Int :=
  if off s = true then some 4
  else if ¬ (0 ≤ b ∧ b < N ∧ 0 ≤ p ∧ p < P ∧ d.length = S) then some 2
  else if scr s b.toNat = true ∨ 2 ≤ usd s b.toNat p.toNat then some 7
  else if usd s b.toNat p.toNat = 0 ∧ p ≤ lsp s b.toNat then some 6
  else none
def pdo (S : Nat) (pl : Pln) (s : St) (b p : Nat) (d : List Int) : St :=
  (at2 (pgs s) b p (pgm S (pl (ops s)) (pgs s b p) d), at2 (usd s) b p (usd s b p + 1), at1 (lsp s) b (max (lsp s b) p), scr s, ers s, crs (pl (ops s)), ops s + 1)
def eno (N : Nat) (s : St) (b : Int) : Option Int := if off s = true then some 4 else if ¬ (0 ≤ b ∧ b < N) then some 2 else none
def ern (P S : Nat) (o : Option (Bool × List Int)) (f : Nat → List Int) (p : Nat) : List Int := match o with
  | none => List.replicate S 255
  | some (_, m) => cut S (ofb (P * S) (erased (jnd P f) m)) p
def edo (P S : Nat) (pl : Pln) (s : St) (b : Nat) : St :=
  (fun k p => if k = b then ern P S (pl (ops s)) (pgs s b) p else pgs s k p,
    fun k p => if k = b ∧ (pl (ops s)).isNone = true then 0 else usd s k p, fun k => if k = b ∧ (pl (ops s)).isNone = true then -1 else lsp s k,
    fun k => if k = b ∧ (pl (ops s)).isNone = true then false else scr s k, at1 (ers s) b (ers s b + 1), crs (pl (ops s)), ops s + 1)
def scn (P S : Nat) (o : Option (Bool × List Int)) (f : Nat → List Int) (p : Nat) : List Int := match o with
  | none => List.replicate S 0
  | some (_, m) => cut S (ofb (P * S) (torn (jnd P f) (List.replicate (P * S) 0) m)) p
def sdo (P S : Nat) (pl : Pln) (s : St) (b : Nat) : St :=
  (fun k p => if k = b then scn P S (pl (ops s)) (pgs s b) p else pgs s k p, usd s, lsp s, at1 (scr s) b true, ers s, crs (pl (ops s)), ops s + 1)
def pwr (s : St) (on : Bool) : St := (pgs s, usd s, lsp s, scr s, ers s, !on, ops s)
def new (S : Nat) : St := (fun _ _ => List.replicate S 255, fun _ _ => 0, fun _ => -1, fun _ => false, fun _ => 0, false, 0)
def img (N P : Nat) (s : St) : List Int := (List.range N).flatMap fun b => jnd P (pgs s b)
def Wf (N P S : Nat) (s : St) : Prop := ∀ b, b < N → (∀ p, p < P → (pgs s b p).length = S ∧ AllB (pgs s b p) ∧ 0 ≤ usd s b p ∧ usd s b p ≤ 2) ∧ -1 ≤ lsp s b ∧ lsp s b < P ∧ 0 ≤ ers s b ∧ ers s b ≤ ops s
theorem jnd_len (P S : Nat) (f : Nat → List Int) (h : ∀ p, p < P → (f p).length = S) : (jnd P f).length = P * S := by
  induction P with
  | zero => simp [jnd]
  | succ P ih =>
    unfold jnd at ih ⊢
    rw [List.range_succ, List.flatMap_append, List.length_append, ih (fun p hp => h p (by omega))]
    simp [h P (by omega), Nat.succ_mul]
theorem jnd_succ (P : Nat) (f : Nat → List Int) : jnd (P + 1) f = jnd P f ++ f P := by
  unfold jnd
  rw [List.range_succ, List.flatMap_append]
  simp
theorem gb_app (xs ys : List Int) (k : Nat) : gb (xs ++ ys) k = if k < xs.length then gb xs k else gb ys (k - xs.length) := by
  unfold gb
  rw [List.getD_eq_getElem?_getD]
  by_cases h : k < xs.length
  · rw [if_pos h, List.getElem?_append_left h]; rfl
  · rw [if_neg h, List.getElem?_append_right (by omega)]; rfl
theorem jnd_gb (P S : Nat) (f : Nat → List Int) (h : ∀ p, p < P → (f p).length = S) (p j : Nat) (hp : p < P) (hj : j < S) : gb (jnd P f) (p * S + j) = gb (f p) j := by
  induction P with
  | zero => omega
  | succ P ih =>
    have hl := jnd_len P S f (fun p hp => h p (by omega))
    rw [jnd_succ, gb_app, hl]
    by_cases e : p = P
    · subst e
      rw [if_neg (by omega), show p * S + j - p * S = j by omega]
    · have : (p + 1) * S ≤ P * S := Nat.mul_le_mul_right S (by omega)
      rw [Nat.succ_mul] at this
      rw [if_pos (by omega)]
      exact ih (fun p hp => h p (by omega)) (by omega)
theorem cut_len (S : Nat) (l : List Int) (P p : Nat) (hl : l.length = P * S) (hp : p < P) : (cut S l p).length = S := by
  have : (p + 1) * S ≤ P * S := Nat.mul_le_mul_right S (by omega)
  rw [Nat.succ_mul] at this
  simp [cut]
  omega
theorem cut_gb (S : Nat) (l : List Int) (p j : Nat) (hj : j < S) : gb (cut S l p) j = gb l (p * S + j) := by
  simp [gb, List.getD, cut, hj]
theorem cut_all (S : Nat) (l : List Int) (p : Nat) (h : AllB l) : AllB (cut S l p) := fun j => by
  by_cases hj : j < S
  · rw [cut_gb S l p j hj]; exact h _
  · have : gb (cut S l p) j = 0 := by
      simp only [gb, List.getD, List.getElem?_eq_none (show (cut S l p).length ≤ j by simp [cut]; omega)]; rfl
    omega
theorem jnd_cut (P S : Nat) (l : List Int) (hl : l.length = P * S) : jnd P (cut S l) = l := by
  have hc : ∀ p, p < P → (cut S l p).length = S := fun p hp => cut_len S l P p hl hp
  refine ext_gb (by rw [jnd_len P S _ hc, hl]) fun k hk => ?_
  rw [jnd_len P S _ hc] at hk
  rcases Nat.eq_zero_or_pos S with h0 | h0
  · subst h0; omega
  have e : k = k / S * S + k % S := by rw [Nat.mul_comm]; exact (Nat.div_add_mod k S).symm
  have hp : k / S < P := (Nat.div_lt_iff_lt_mul h0).2 hk
  have hm : k % S < S := Nat.mod_lt _ h0
  rw [e, jnd_gb P S _ hc (k / S) (k % S) hp hm, cut_gb S l _ _ hm]
theorem pgm_wf {was b : List Int} (S : Nat) (o : Option (Bool × List Int)) (hw : AllB was) (hl : was.length = S) : (pgm S o was b).length = S ∧ AllB (pgm S o was b) := by
  match o with
  | none => exact ⟨by rw [pgm, andl_len]; exact hl, andl_all _ _ hw⟩
  | some (true, m) => exact ⟨ofb_len _ _, ofb_all _ _⟩
  | some (false, m) => exact ⟨ofb_len _ _, ofb_all _ _⟩
theorem ern_wf (P S : Nat) (o : Option (Bool × List Int)) (f : Nat → List Int) (p : Nat) (hp : p < P) : (ern P S o f p).length = S ∧ AllB (ern P S o f p) := by
  match o with
  | none => exact ⟨by simp [ern], allB_replicate 255 S (by omega)⟩
  | some (c, m) => exact ⟨cut_len S _ P p (ofb_len _ _) hp, cut_all S _ p (ofb_all _ _)⟩
theorem scn_wf (P S : Nat) (o : Option (Bool × List Int)) (f : Nat → List Int) (p : Nat) (hp : p < P) : (scn P S o f p).length = S ∧ AllB (scn P S o f p) := by
  match o with
  | none => exact ⟨by simp [scn], allB_replicate 0 S (by omega)⟩
  | some (c, m) => exact ⟨cut_len S _ P p (ofb_len _ _) hp, cut_all S _ p (ofb_all _ _)⟩
end Go.Proofs.YtakibiigcdgohaaGreatDoor.na
namespace Go.Proofs.YtakibiigcdgohaaGreatDoor.na
open Go.RowKit Go.Proofs.YtakibiigcdgohaaGreatDoor.fa
set_option maxRecDepth 20000
theorem new_wf (N P S : Nat) : Wf N P S (new S) := fun b _ => ⟨fun p _ => ⟨by simp [new, pgs], allB_replicate 255 S (by omega), by simp [new, usd], by simp [new, usd]⟩, by simp [new, lsp], by simp [new, lsp]; omega, by simp [new, ers], by simp [new, ers, ops]⟩
theorem pwr_wf {N P S : Nat} {s : St} (h : Wf N P S s) (on : Bool) : Wf N P S (pwr s on) := h
theorem pno_none {N P S : Nat} {s : St} {b p : Int} {d : List Int} (h : pno N P S s b p d = none) : off s = false ∧ (0 ≤ b ∧ b < N ∧ 0 ≤ p ∧ p < P ∧ d.length = S) ∧ scr s b.toNat = false ∧ usd s b.toNat p.toNat < 2 ∧ ¬ (usd s b.toNat p.toNat = 0 ∧ p ≤ lsp s b.toNat) := by
  unfold pno at h
  split at h
  · cases h
  rename_i h1
  split at h
  · cases h
  rename_i h2
  split at h
  · cases h
  rename_i h3
  split at h
  · cases h
  rename_i h4
  exact ⟨Bool.eq_false_iff.2 h1, Classical.not_not.1 h2, Bool.eq_false_iff.2 fun e => h3 (Or.inl e), by have : ¬ 2 ≤ usd s b.toNat p.toNat := fun e => h3 (Or.inr e); omega, h4⟩
theorem eno_none {N : Nat} {s : St} {b : Int} (h : eno N s b = none) : off s = false ∧ 0 ≤ b ∧ b < N := by
  unfold eno at h
  split at h
  · cases h
  rename_i h1
  split at h
  · cases h
  rename_i h2
  have := Classical.not_not.1 h2
  exact ⟨Bool.eq_false_iff.2 h1, this.1, this.2⟩
theorem pdo_wf {N P S : Nat} {s : St} (h : Wf N P S s) (pl : Pln) (b p : Nat) (d : List Int) (hp : p < P) (hu : usd s b p < 2) : Wf N P S (pdo S pl s b p d) := fun k hk => by
  obtain ⟨h1, h2, h3, h4, h5⟩ := h k hk
  refine ⟨fun j hj => ?_, ?_, ?_, h4, ?_⟩
  · obtain ⟨q1, q2, q3, q4⟩ := h1 j hj
    by_cases e : k = b ∧ j = p
    · obtain ⟨rfl, rfl⟩ := e
      have w := pgm_wf (b := d) S (pl (ops s)) q2 q1
      refine ⟨?_, ?_, ?_, ?_⟩
      · show (at2 (α := List Int) _ _ _ _ k j).length = S
        rw [at2_same]; exact w.1
      · show AllB (at2 _ _ _ _ k j)
        rw [at2_same]; exact w.2
      · show 0 ≤ at2 _ _ _ _ k j
        rw [at2_same]; omega
      · show at2 _ _ _ _ k j ≤ 2
        rw [at2_same]; omega
    · refine ⟨?_, ?_, ?_, ?_⟩
      · show (at2 (α := List Int) _ _ _ _ k j).length = S
        rw [at2_other _ _ _ _ _ _ e]; exact q1
      · show AllB (at2 _ _ _ _ k j)
        rw [at2_other _ _ _ _ _ _ e]; exact q2
      · show 0 ≤ at2 _ _ _ _ k j
        rw [at2_other _ _ _ _ _ _ e]; exact q3
      · show at2 _ _ _ _ k j ≤ 2
        rw [at2_other _ _ _ _ _ _ e]; exact q4
  · show -1 ≤ at1 _ _ _ k
    unfold at1
    split
    · rename_i e; subst e; omega
    · exact h2
  · show at1 _ _ _ k < (P : Int)
    unfold at1
    split
    · rename_i e; subst e; omega
    · exact h3
  · show ers s k ≤ ((ops s + 1 : Nat) : Int)
    omega
theorem edo_wf {N P S : Nat} {s : St} (h : Wf N P S s) (pl : Pln) (b : Nat) : Wf N P S (edo P S pl s b) := fun k hk => by
  obtain ⟨h1, h2, h3, h4, h5⟩ := h k hk
  refine ⟨fun j hj => ?_, ?_, ?_, ?_, ?_⟩
  · obtain ⟨q1, q2, q3, q4⟩ := h1 j hj
    refine ⟨?_, ?_, ?_, ?_⟩
    · show (if k = b then ern P S (pl (ops s)) (pgs s b) j else pgs s k j).length = S
      split
      · exact (ern_wf P S _ _ j hj).1
      · exact q1
    · show AllB (if k = b then ern P S (pl (ops s)) (pgs s b) j else pgs s k j)
      split
      · exact (ern_wf P S _ _ j hj).2
      · exact q2
    · show 0 ≤ (if k = b ∧ (pl (ops s)).isNone = true then 0 else usd s k j)
      split
      · omega
      · exact q3
    · show (if k = b ∧ (pl (ops s)).isNone = true then 0 else usd s k j) ≤ 2
      split
      · omega
      · exact q4
  · show -1 ≤ (if k = b ∧ (pl (ops s)).isNone = true then -1 else lsp s k)
    split
    · omega
    · exact h2
  · show (if k = b ∧ (pl (ops s)).isNone = true then -1 else lsp s k) < (P : Int)
    split
    · omega
    · exact h3
  · show 0 ≤ at1 _ _ _ k
    unfold at1
    split
    · rename_i e; subst e; omega
    · exact h4
  · show at1 _ _ _ k ≤ ((ops s + 1 : Nat) : Int)
    unfold at1
    split
    · rename_i e; subst e; omega
    · omega
theorem sdo_wf {N P S : Nat} {s : St} (h : Wf N P S s) (pl : Pln) (b : Nat) : Wf N P S (sdo P S pl s b) := fun k hk => by
  obtain ⟨h1, h2, h3, h4, h5⟩ := h k hk
  refine ⟨fun j hj => ?_, h2, h3, h4, ?_⟩
  · obtain ⟨q1, q2, q3, q4⟩ := h1 j hj
    refine ⟨?_, ?_, q3, q4⟩
    · show (if k = b then scn P S (pl (ops s)) (pgs s b) j else pgs s k j).length = S
      split
      · exact (scn_wf P S _ _ j hj).1
      · exact q1
    · show AllB (if k = b then scn P S (pl (ops s)) (pgs s b) j else pgs s k j)
      split
      · exact (scn_wf P S _ _ j hj).2
      · exact q2
  · show ers s k ≤ ((ops s + 1 : Nat) : Int)
    omega
theorem jnd_congr {f g : Nat → List Int} : ∀ {P : Nat}, (∀ p, p < P → f p = g p) → jnd P f = jnd P g
  | 0, _ => rfl
  | P + 1, h => by rw [jnd_succ, jnd_succ, jnd_congr (P := P) fun p hp => h p (by omega), h P (by omega)]
theorem img_len {N P S : Nat} {s : St} (h : Wf N P S s) : (img N P s).length = N * (P * S) :=
  jnd_len N (P * S) (fun b => jnd P (pgs s b)) fun b hb => jnd_len P S _ fun p hp => ((h b hb).1 p hp).1
def Opn : Type := Int × Int × Int × List Int × Int
def opn (k b p : Int) (d : List Int) (e : Int) : Opn := (k, b, p, d, e)
end Go.Proofs.YtakibiigcdgohaaGreatDoor.na
namespace Go.Proofs.YtakibiigcdgohaaGreatDoor.ge
open Go.RowKit
set_option maxRecDepth 20000
def qt (u s : Nat) : Nat := (s + u - 1) / u + 2
theorem qt_le (u s k : Nat) (hu : 0 < u) : qt u s ≤ k + 2 ↔ s ≤ k * u := by
  unfold qt
  constructor
  · intro h
    have h1 : (s + u - 1) / u ≤ k := by omega
    have h2 : s + u - 1 < (k + 1) * u := by
      rcases Nat.lt_or_ge (s + u - 1) ((k + 1) * u) with h | h
      · exact h
      · have := (Nat.le_div_iff_mul_le hu).2 h
        omega
    rw [Nat.add_mul] at h2
    omega
  · intro h
    have h2 : (s + u - 1) / u < k + 1 := by
      rw [Nat.div_lt_iff_lt_mul hu, Nat.add_mul]
      omega
    omega
theorem qt_two (u s : Nat) : 2 ≤ qt u s := Nat.le_add_left 2 _
theorem qt_count (u s n : Nat) (hu : 0 < u) (h1 : s ≤ n * u) (h2 : ∀ m, m < n → m * u < s) : qt u s = n + 2 := by
  have a := (qt_le u s n hu).2 h1
  rcases Nat.lt_or_ge (qt u s) (n + 2) with h | h
  · have h3 := qt_two u s
    have := (qt_le u s (qt u s - 2) hu).1 (by omega)
    have := h2 (qt u s - 2) (by omega)
    omega
  · omega
end Go.Proofs.YtakibiigcdgohaaGreatDoor.ge
namespace Go.Proofs.YtakibiigcdgohaaGreatDoor.ge
open Go.RowKit
set_option maxRecDepth 20000
def Kept (g : List Int) : Prop := (7 ≤ gb g 0 ∧ gb g 0 ≤ 64) ∧ (4 ≤ gb g 1 ∧ gb g 1 ≤ 32) ∧ (32 ≤ gb g 2 ∧ gb g 2 ≤ 4096) ∧ (0 ≤ gb g 3 ∧ gb g 3 ≤ 8) ∧ (1 ≤ gb g 4 ∧ gb g 4 ≤ 1000) ∧ (1 ≤ gb g 5 ∧ gb g 5 ≤ 1000)
def rec (g : List Int) : Int := (624 + gb g 2 - 1) / gb g 2
def Rt (g : List Int) : Prop := Kept g ∧ gb g 2 % 16 = 0 ∧ rec g ≤ gb g 1 ∧ gb g 3 + 3 ≤ gb g 0 - 4
theorem und_geo : ∃ d, Tryz.prog.underlying 23 = some d ∧ d.isRow = true := ⟨_, Tryz.underlying23, rfl⟩
theorem size_geo : (Tryz.prog.info? 23).map (·.size) = some 6 := by kernel_rfl
theorem load_geo {w : World} {b : Nat} {g : List Int} (h : Ar w b 0 .i64 g) (hl : g.length = 6) : (Instr.loadAt 23 (.pointer (some ⟨b, 0, none⟩))).run Tryz.prog w = .ok (.agg (ints .i64 g)) w := by
  obtain ⟨d, hu, hd⟩ := und_geo
  have := run_loadVar_mid (P := Tryz.prog) w b 0 23 _ _ h.1 hu hd (by rw [size_geo]; simp [hl])
  simp only [Instr.loadAt, Instr.sureAddr, Sem.run_bind, Sem.run_pure, Result.andThen_ok, this]
  rfl
section
variable {ops : Array Oper} {rest : List Oper} {a : Act} {Q : Exit → Act → World → Prop}
theorem load_lawS {d : Option Tmp} {t : TypeId} {x : Operand} {ty : TypeId} {pos : String} {af : Array Edge} {gd : Option (Nat × Bool)} (w : World) (hw : Region.wanted ⟨d, Op.load t x, ty, pos, af, gd⟩ (yielded ops a.tmps) = true) (p v : Value) (hx : a.eval x = p) (h : (Instr.loadAt t p).run Tryz.prog w = .ok v w)
    (hK : wpList Tryz.prog ops Q rest (a.put d v) w) : wpList Tryz.prog ops Q (⟨d, Op.load t x, ty, pos, af, gd⟩ :: rest) a w := by
  refine wpList_step fun K hK' => ?_
  rw [if_pos hw]
  unfold Oper.wp execOp
  simp only [hx, Sem.run_bind, Result.andThen_ok, h]
  exact hK' _ _ hK
end
theorem geo_cells {w : World} {b : Nat} {g : List Int} (h : Ar w b 0 .i64 g) (hl : g.length = 6) :
    w.cell? ⟨b, 0, none⟩ = some (.int .i64 (gb g 0)) ∧ w.cell? ⟨b, 1, none⟩ = some (.int .i64 (gb g 1)) ∧ w.cell? ⟨b, 2, none⟩ = some (.int .i64 (gb g 2)) ∧ w.cell? ⟨b, 3, none⟩ = some (.int .i64 (gb g 3)) ∧
    w.cell? ⟨b, 4, none⟩ = some (.int .i64 (gb g 4)) ∧ w.cell? ⟨b, 5, none⟩ = some (.int .i64 (gb g 5)) :=
  ⟨h.cell0 0 (by omega), h.cell0 1 (by omega), h.cell0 2 (by omega), h.cell0 3 (by omega), h.cell0 4 (by omega), h.cell0 5 (by omega)⟩
theorem parts_any (n e : Int) (w : World) (hn : 1 ≤ n ∧ n ≤ 65535) (he : 1 ≤ e ∧ e ≤ 65535) :
    Calls Tryz.prog 76 #[.int .i64 n, .int .i64 e] w fun x w' => x = .returned (.int .i64 ((n + e - 1) / e)) ∧ w' = w := by
  have h0 : 0 ≤ (n + e - 1) / e := Int.ediv_nonneg (by omega) (by omega)
  have h1 : (n + e - 1) / e ≤ n + e - 1 := Int.ediv_le_self _ (by omega)
  have q1 : (n + e - 1).tdiv e = (n + e - 1) / e := Int.tdiv_eq_ediv_of_nonneg (by omega)
  generalize (n + e - 1) / e = z at *
  have q2 : IntKind.i64.wrap (n + e) = n + e := by rw [IntKind.wrap_i64]; omega
  have q3 : IntKind.i64.wrap (n + e - 1) = n + e - 1 := by rw [IntKind.wrap_i64]; omega
  have q4 : IntKind.i64.wrap z = z := by rw [IntKind.wrap_i64]; omega
  have q5 : e ≠ 0 := by omega
  go_enter Tryz.func76, Tryz.ntmps76
  go_wp2
  go_ret
  exact ⟨rfl, rfl⟩
theorem in_yes (n a b : Int) (w : World) (hn : a ≤ n ∧ n ≤ b) :
    Calls Tryz.prog 54 #[.int .i64 n, .int .i64 a, .int .i64 b] w fun x w' => x = .returned (.bool true) ∧ w' = w := by
  obtain ⟨h1, h2⟩ := hn
  go_enter Tryz.func54, Tryz.ntmps54
  go_wp2
  go_ret
  exact ⟨rfl, rfl⟩
theorem in_no (n a b : Int) (w : World) (hn : ¬ (a ≤ n ∧ n ≤ b)) :
    Calls Tryz.prog 54 #[.int .i64 n, .int .i64 a, .int .i64 b] w fun x w' => x = .returned (.bool false) ∧ w' = w := by
  by_cases h1 : a ≤ n
  · have h2 : ¬ n ≤ b := fun h => hn ⟨h1, h⟩
    clear hn
    go_enter Tryz.func54, Tryz.ntmps54
    go_wp2
    go_ret
    exact ⟨rfl, rfl⟩
  · clear hn
    go_enter Tryz.func54, Tryz.ntmps54
    go_wp2
    go_ret
    exact ⟨rfl, rfl⟩
theorem db_any (g : List Int) (w : World) (hl : g.length = 6) (hk : Kept g) :
    Calls Tryz.prog 57 #[.agg (ints .i64 g)] w fun x w' => x = .returned (.int .i64 (gb g 0 - 4)) ∧ Below w.heap.size w w' := by
  have q1 : IntKind.i64.wrap (gb g 0 - 4) = gb g 0 - 4 := by obtain ⟨h, -⟩ := hk; rw [IntKind.wrap_i64]; omega
  clear hk
  generalize hq : gb g 0 - 4 = z at *
  go_enter Tryz.func57, Tryz.ntmps57
  go_wp2_with (refine box_lawF _ rfl (.tmp 0) 23 rfl .i64 g rfl ?_; intro w1 X1 B1 L1; obtain ⟨f0, f1, f2, f3, f4, f5⟩ := geo_cells X1 hl)
  go_ret
  exact ⟨rfl, B1⟩
theorem rec_any (g : List Int) (w : World) (hl : g.length = 6) (hk : Kept g) :
    Calls Tryz.prog 56 #[.agg (ints .i64 g)] w fun x w' => x = .returned (.int .i64 (rec g)) ∧ Below w.heap.size w w' := by
  have S : Hid (∀ w, Calls Tryz.prog 76 #[.int .i64 624, .int .i64 (gb g 2)] w fun x w' => x = .returned (.int .i64 (rec g)) ∧ w' = w) := fun w => parts_any 624 (gb g 2) w (by omega) (by obtain ⟨-, -, h, -⟩ := hk; omega)
  clear hk
  generalize rec g = z at *
  go_enter Tryz.func56, Tryz.ntmps56
  go_wp2_with (first
    | (go_at_call 76; refine (S.out _).mono ?_; rintro e wx ⟨rfl, hw⟩; obtain rfl := hw.symm)
    | (refine box_lawF _ rfl (.tmp 0) 23 rfl .i64 g rfl ?_; intro w1 X1 B1 L1; obtain ⟨f0, f1, f2, f3, f4, f5⟩ := geo_cells X1 hl))
  go_ret
  exact ⟨rfl, B1⟩
end Go.Proofs.YtakibiigcdgohaaGreatDoor.ge
namespace Go.Proofs.YtakibiigcdgohaaGreatDoor.na
open Go.RowKit Go.Proofs.YtakibiigcdgohaaGreatDoor.fa
set_option maxRecDepth 20000
def Pla (w : World) (pv : Value) (pl : Pln) : Prop := ∃ fs ms, Fls w pv fs ∧ Mks w fs ms ∧ fs.length ≤ 64 ∧ Okp fs ms fs.length ∧ ∀ n : Nat, (∀ t, Fst fs n t → pl n = some ((gf fs t).2.1, ms t)) ∧ ((∀ s, s < fs.length → (gf fs s).1 ≠ n) → pl n = none)
theorem Pla.below {w w' : World} {pv : Value} {pl : Pln} (h : Pla w pv pl) (hb : Below w.heap.size w w') : Pla w' pv pl := by
  obtain ⟨fs, ms, h1, h2, h3⟩ := h
  exact ⟨fs, ms, h1.below hb, h2.below hb, h3⟩
theorem hid_pla {M : Nat → Bool} {w : World} {pv : Value} {pl : Pln} (h : Pla (hid M w) pv pl) : Pla w pv pl := by
  obtain ⟨fs, ms, h1, h2, h3⟩ := h
  exact ⟨fs, ms, hid_fls h1, hid_mks h2, h3⟩
def plnOf (fs : List (Int × Bool × Value)) (ms : Nat → List Int) : Pln := fun n => ((List.range fs.length).find? fun t => (gf fs t).1 == (n : Int)).map fun t => ((gf fs t).2.1, ms t)
theorem plnOf_is (fs : List (Int × Bool × Value)) (ms : Nat → List Int) (n : Nat) : (∀ t, Fst fs n t → plnOf fs ms n = some ((gf fs t).2.1, ms t)) ∧ ((∀ s, s < fs.length → (gf fs s).1 ≠ n) → plnOf fs ms n = none) := by
  refine ⟨fun t ⟨h1, h2, h3⟩ => ?_, fun h => ?_⟩
  · have : (List.range fs.length).find? (fun t => (gf fs t).1 == (n : Int)) = some t := by
      rw [List.find?_range_eq_some]
      exact ⟨by simpa using h2, by simpa using h1, fun j hj => by simpa using h3 j hj⟩
    unfold plnOf
    rw [this]; rfl
  · have : (List.range fs.length).find? (fun t => (gf fs t).1 == (n : Int)) = none := by
      rw [List.find?_eq_none]
      intro t ht
      simpa using h t (List.mem_range.1 ht)
    unfold plnOf
    rw [this]; rfl
def gO (tr : List Opn) (i : Nat) : Opn := tr.getD i (opn 0 0 0 [] 0)
def opc (o : Opn) (dv : Value) : List Value := [.int .i64 o.1, .int .i64 o.2.1, .int .i64 o.2.2.1, dv, .int .i64 o.2.2.2.2]
def opcs (tr : List Opn) (dv : Nat → Value) : List (List Value) := (List.range tr.length).map fun i => opc (gO tr i) (dv i)
theorem opcs_len (tr : List Opn) (dv : Nat → Value) : (opcs tr dv).length = tr.length := by simp [opcs]
theorem gO_app (tr : List Opn) (o : Opn) (i : Nat) (h : i < tr.length) : gO (tr ++ [o]) i = gO tr i := by
  unfold gO
  rw [List.getD_eq_getElem?_getD, List.getD_eq_getElem?_getD, List.getElem?_append_left h]
theorem gO_last (tr : List Opn) (o : Opn) : gO (tr ++ [o]) tr.length = o := by
  unfold gO
  rw [List.getD_eq_getElem?_getD, List.getElem?_append_right (Nat.le_refl _), Nat.sub_self]; rfl
theorem opcs_app (tr : List Opn) (o : Opn) (dv : Nat → Value) (v : Value) : opcs (tr ++ [o]) (fun i => if i < tr.length then dv i else v) = opcs tr dv ++ [opc o v] := by
  have e : ∀ i, i < tr.length → opc (gO (tr ++ [o]) i) (if i < tr.length then dv i else v) = opc (gO tr i) (dv i) := fun i h => by rw [gO_app tr o i h, if_pos h]
  unfold opcs
  rw [List.length_append, List.length_singleton, List.range_succ, List.map_append, List.map_congr_left (fun i hi => e i (List.mem_range.1 hi))]
  simp [gO_last]
def Trv (M : Nat → Bool) (w : World) (tv : Value) (tr : List Opn) : Prop := ∃ dv : Nat → Value, OwR 0 w tv 114 5 (opcs tr dv) ∧ (∀ i, i < tr.length → Byt (hid M w) (dv i) (gO tr i).2.2.2.1) ∧ ∀ k, tv.ownBlock = some k → M k = true
def Raw : Type := List Int × (Nat → List Int) × (Nat → Int) × (Nat → Bool) × Bool × List Opn
def xi (X : Raw) : List Int := X.1
def xp (X : Raw) : Nat → List Int := X.2.1
def xe (X : Raw) : Nat → Int := X.2.2.1
def xs (X : Raw) : Nat → Bool := X.2.2.2.1
def xo (X : Raw) : Bool := X.2.2.2.2.1
def xt (X : Raw) : List Opn := X.2.2.2.2.2
def mkX (a : List Int) (b : Nat → List Int) (c : Nat → Int) (d : Nat → Bool) (e : Bool) (f : List Opn) : Raw := (a, b, c, d, e, f)
def Shp (g : List Int) (N P S : Nat) : Prop := g.length = 6 ∧ ge.Rt g ∧ gb g 0 = N ∧ gb g 1 = P ∧ gb g 2 + 88 = S
def Sep (M : Nat → Bool) (c r d : Nat) (q : Nat → Nat) (N : Nat) : Prop := (M c = true ∧ M r = true ∧ M d = true ∧ ∀ b, b < N → M (q b) = true) ∧ (c ≠ r ∧ c ≠ d ∧ r ≠ d) ∧ (∀ b, b < N → q b ≠ c ∧ q b ≠ r ∧ q b ≠ d) ∧ ∀ b b', b < N → b' < N → b ≠ b' → q b ≠ q b'
def Tsp (tv : Value) (c r d : Nat) (q : Nat → Nat) (N : Nat) : Prop := ∀ k, tv.ownBlock = some k → k ≠ c ∧ k ≠ r ∧ k ≠ d ∧ ∀ b, b < N → q b ≠ k
def chc (g : List Int) (pv : Value) (on : Bool) (n d r N : Nat) (tv : Value) : List Value := g.map (Value.int .i64) ++ [pv, .bool on, .slice (some ⟨d, 0, none⟩) n n, .slice (some ⟨r, 0, none⟩) N N, tv]
def stc (q P : Nat) (e : Int) (s : Bool) : List Value := [.slice (some ⟨q, 0, none⟩) P P, .int .i64 e, .bool s]
def Imr (w : World) (d n : Nat) (im : List Int) : Prop := Ar w d 0 .u8 im ∧ im.length = n ∧ AllB im
def Sts (w : World) (r : Nat) (q : Nat → Nat) (N P : Nat) (e : Nat → Int) (s : Nat → Bool) : Prop := ∀ b, b < N → w.rangeAt r (b * 3) (stc (q b) P (e b) (s b)) ∧ w.there r (b * 3) 3
def Prs (w : World) (q : Nat → Nat) (N P : Nat) (p : Nat → List Int) : Prop := ∀ b, b < N → Ar w (q b) 0 .i64 (p b) ∧ (p b).length = P
def Mlt (M : Nat → Bool) (w : World) : Prop := ∀ k, M k = true → k < w.heap.size
def Blt (w : World) (c r d : Nat) (q : Nat → Nat) (N : Nat) : Prop := c < w.heap.size ∧ r < w.heap.size ∧ d < w.heap.size ∧ ∀ b, b < N → q b < w.heap.size
theorem Blt.up {w w' : World} {c r d : Nat} {q : Nat → Nat} {N : Nat} (h : Blt w c r d q N) (hs : w.heap.size ≤ w'.heap.size) : Blt w' c r d q N := ⟨Nat.lt_of_lt_of_le h.1 hs, Nat.lt_of_lt_of_le h.2.1 hs, Nat.lt_of_lt_of_le h.2.2.1 hs, fun b hb => Nat.lt_of_lt_of_le (h.2.2.2 b hb) hs⟩
def Lay (M : Nat → Bool) (w : World) (c r d : Nat) (q : Nat → Nat) (pv tv : Value) (g : List Int) (N P S : Nat) (pl : Pln) (X : Raw) : Prop :=
  Shp g N P S ∧ Sep M c r d q N ∧ Tsp tv c r d q N ∧ Vr w c (chc g pv (xo X) (N * (P * S)) d r N tv) ∧ Imr w d (N * (P * S)) (xi X) ∧ Sts w r q N P (xe X) (xs X) ∧ Prs w q N P (xp X) ∧ Trv M w tv (xt X) ∧ Pla (hid M w) pv pl ∧ Blt w c r d q N
theorem keep_cells (w : World) (b o : Nat) (vs : List Value) : w.grownBy (w.setCells b o vs) (some b) := by
  have h : Below 0 w (w.setCells b o vs) := below_cells b (Nat.zero_le _) vs o (Below.refl _ _)
  refine ⟨h.os, h.tape, h.output, h.size, fun k hk hne => ?_⟩
  have hne' : k ≠ b := fun e => hne (by rw [e])
  clear h hk hne
  induction vs generalizing w o with
  | nil => rfl
  | cons v r ih => exact (ih (w.setCell ⟨b, o, none⟩ v) (o + 1)).trans (Below.heap_setCell w ⟨b, o, none⟩ v k hne')
theorem keep_set (w : World) (b o : Nat) (v : Value) : w.grownBy (w.setCell ⟨b, o, none⟩ v) (some b) := keep_cells w b o [v]
theorem keep_below {w w' : World} (h : Below w.heap.size w w') : w.grownBy w' none := ⟨h.os, h.tape, h.output, h.size, fun j hj _ => h.block j hj⟩
theorem OwR.kept {B : Nat} {w w' : World} {v : Value} {e : TypeId} {k : Nat} {ess : List (List Value)} {row : Option Nat} (h : OwR B w v e k ess) (hg : w.grownBy w' row) (hne : v.ownBlock = none ∨ v.ownBlock ≠ row) : OwR B w' v e k ess := ⟨h.1.kept hg hne, h.2⟩
theorem Vr.kept {w w' : World} {c : Nat} {cs : List Value} {row : Option Nat} (h : Vr w c cs) (hg : w.grownBy w' row) (hl : c < w.heap.size) (hne : some c ≠ row) : Vr w' c cs := h.heap (hg.block c hl hne)
theorem Imr.kept {w w' : World} {d n : Nat} {im : List Int} {row : Option Nat} (h : Imr w d n im) (hg : w.grownBy w' row) (hl : d < w.heap.size) (hne : some d ≠ row) : Imr w' d n im := ⟨h.1.heap (hg.block d hl hne), h.2⟩
theorem Sts.kept {w w' : World} {r : Nat} {q : Nat → Nat} {N P : Nat} {e : Nat → Int} {s : Nat → Bool} {row : Option Nat} (h : Sts w r q N P e s) (hg : w.grownBy w' row) (hl : r < w.heap.size) (hne : some r ≠ row) : Sts w' r q N P e s := fun b hb => ⟨range_heap (h b hb).1 (hg.block r hl hne), there_heap (h b hb).2 (hg.block r hl hne)⟩
theorem Prs.kept {w w' : World} {q : Nat → Nat} {N P : Nat} {p : Nat → List Int} {row : Option Nat} (h : Prs w q N P p) (hg : w.grownBy w' row) (hl : ∀ b, b < N → q b < w.heap.size) (hne : ∀ b, b < N → some (q b) ≠ row) : Prs w' q N P p := fun b hb => ⟨(h b hb).1.heap (hg.block (q b) (hl b hb) (hne b hb)), (h b hb).2⟩
theorem Trv.kept {M : Nat → Bool} {w w' : World} {tv : Value} {tr : List Opn} {row : Option Nat} (h : Trv M w tv tr) (hg : w.grownBy w' row) (hM : ∀ k, row = some k → M k = true) (hne : tv.ownBlock = none ∨ tv.ownBlock ≠ row) : Trv M w' tv tr := by
  obtain ⟨dv, h1, h2, h3⟩ := h
  exact ⟨dv, h1.kept hg hne, fun i hi => (h2 i hi).below (Frm.grown hg hM).hid0, h3⟩
theorem own_ne {v : Value} {x : Nat} (h : ∀ k, v.ownBlock = some k → k ≠ x) : v.ownBlock = none ∨ v.ownBlock ≠ some x := by
  cases hv : v.ownBlock with
  | none => exact Or.inl rfl
  | some k => exact Or.inr fun e => h k hv (by injection e)
section
variable {M : Nat → Bool} {w w' : World} {c r d : Nat} {q : Nat → Nat} {pv tv : Value} {g : List Int} {N P S : Nat} {pl : Pln} {X : Raw}
theorem Lay.below (h : Lay M w c r d q pv tv g N P S pl X) (hb : Below w.heap.size w w') : Lay M w' c r d q pv tv g N P S pl X := by
  obtain ⟨h1, h2, h3, h4, h5, h6, h7, h8, h9, h10⟩ := h
  have hg := keep_below hb
  have hn : ∀ k, (none : Option Nat) = some k → M k = true := fun k e => by cases e
  refine ⟨h1, h2, h3, h4.kept hg (h10.1) (by simp), h5.kept hg (h10.2.2.1) (by simp), h6.kept hg (h10.2.1) (by simp), h7.kept hg h10.2.2.2 (by simp), h8.kept hg hn ?_, h9.below (below_hid hb), h10.up hb.size⟩
  cases hv : tv.ownBlock with
  | none => exact Or.inl rfl
  | some k => exact Or.inr (by simp)
theorem Lay.drewN (h : Lay M w c r d q pv tv g N P S pl X) (n : Nat) : Lay M (w.drewN n) c r d q pv tv g N P S pl X := h.below (below_drawn (Below.refl _ _) n)
theorem chc_len (h : g.length = 6) (on : Bool) (n d r N : Nat) (pv tv : Value) : (chc g pv on n d r N tv).length = 11 := by simp [chc, h]
theorem Lay.cells (h : Lay M w c r d q pv tv g N P S pl X) : w.cell? ⟨c, 6, none⟩ = some pv ∧ w.cell? ⟨c, 7, none⟩ = some (.bool (xo X)) ∧ w.cell? ⟨c, 8, none⟩ = some (.slice (some ⟨d, 0, none⟩) (N * (P * S)) (N * (P * S))) ∧ w.cell? ⟨c, 9, none⟩ = some (.slice (some ⟨r, 0, none⟩) N N) ∧ w.cell? ⟨c, 10, none⟩ = some tv := by
  obtain ⟨h1, h2, h3, h4, -⟩ := h
  have e : ∀ j, (chc g pv (xo X) (N * (P * S)) d r N tv)[6 + j]? = ([pv, .bool (xo X), .slice (some ⟨d, 0, none⟩) (N * (P * S)) (N * (P * S)), .slice (some ⟨r, 0, none⟩) N N, tv] : List Value)[j]? := fun j => by
    unfold chc
    rw [List.getElem?_append_right (by simp [h1.1])]
    simp [h1.1]
  exact ⟨h4.cell 6 _ ((e 0).trans rfl), h4.cell 7 _ ((e 1).trans rfl), h4.cell 8 _ ((e 2).trans rfl), h4.cell 9 _ ((e 3).trans rfl), h4.cell 10 _ ((e 4).trans rfl)⟩
theorem Lay.geo (h : Lay M w c r d q pv tv g N P S pl X) : w.rangeAt c 0 (g.map (Value.int .i64)) := fun j v hv => by
  obtain ⟨h1, h2, h3, h4, -⟩ := h
  have := h4.1 j v (by unfold chc; rw [List.getElem?_append_left (List.getElem?_eq_some_iff.1 hv).1]; exact hv)
  exact this
theorem Lay.free (h : Lay M w c r d q pv tv g N P S pl X) (j : Nat) (hj : j < 11) : (w.cell? ⟨c, j, none⟩).isSome = true ∧ w.frozen? ⟨c, j, none⟩ = false := by
  obtain ⟨h1, h2, h3, h4, -⟩ := h
  have hl := chc_len h1.1 (xo X) (N * (P * S)) d r N pv tv
  exact ⟨h4.there1 j (by omega), h4.free j (by omega)⟩
theorem chc_set7 (h : g.length = 6) (on on' : Bool) (n d r N : Nat) (pv tv : Value) : (chc g pv on n d r N tv).set 7 (.bool on') = chc g pv on' n d r N tv := by
  unfold chc
  rw [List.set_append_right _ _ (by simp [h])]
  simp [h]
theorem chc_set10 (h : g.length = 6) (on : Bool) (n d r N : Nat) (pv tv tv' : Value) : (chc g pv on n d r N tv).set 10 tv' = chc g pv on n d r N tv' := by
  unfold chc
  rw [List.set_append_right _ _ (by simp [h])]
  simp [h]
theorem Lay.on (h : Lay M w c r d q pv tv g N P S pl X) (b : Bool) : Lay M (w.setCell ⟨c, 7, none⟩ (.bool b)) c r d q pv tv g N P S pl (mkX (xi X) (xp X) (xe X) (xs X) b (xt X)) := by
  obtain ⟨h1, h2, h3, h4, h5, h6, h7, h8, h9, h10⟩ := h
  have hg := keep_set w c 7 (.bool b)
  have hM : ∀ k, some c = some k → M k = true := fun k e => by injection e with e; rw [← e]; exact h2.1.1
  have hl := chc_len h1.1 (xo X) (N * (P * S)) d r N pv tv
  refine ⟨h1, h2, h3, ?_, h5.kept hg (h10.2.2.1) (by simp; exact fun e => h2.2.1.2.1 e.symm), h6.kept hg (h10.2.1) (by simp; exact fun e => h2.2.1.1 e.symm), h7.kept hg h10.2.2.2 (fun b hb => by simp; exact (h2.2.2.1 b hb).1), h8.kept hg hM (own_ne fun k hk => (h3 k hk).1), h9.below (Frm.grown hg hM).hid0, h10.up hg.size⟩
  have := h4.set 7 (by omega) (.bool b)
  rw [chc_set7 h1.1] at this
  exact this
theorem Sts.put (h : Sts w r q N P (xe X) (xs X)) (b : Nat) (hb : b < N) (e : Int) (s : Bool) (j : Nat) (v : Value) (hj : j < 3) (hv : (stc (q b) P (xe X b) (xs X b)).set j v = stc (q b) P e s) : Sts (w.setCell ⟨r, b * 3 + j, none⟩ v) r q N P (at1 (xe X) b e) (at1 (xs X) b s) := fun k hk => by
  have hw := h k hk
  refine ⟨?_, fun i hi => ?_⟩
  · by_cases e1 : k = b
    · subst e1
      rw [at1_same, at1_same, ← hv]
      intro i u hu
      rw [List.getElem?_set] at hu
      by_cases e2 : j = i
      · subst e2
        rw [if_pos rfl] at hu
        have hjl : j < (stc (q k) P (xe X k) (xs X k)).length := hj
        rw [if_pos hjl] at hu
        cases hu
        exact World.cell?_setCell_same _ _ _ (hw.1 j _ (List.getElem?_eq_getElem hjl))
      · rw [if_neg e2] at hu
        rw [World.cell?_setCell_other _ _ _ _ (by intro q; injection q with _ q2; omega)]
        exact hw.1 i u hu
    · rw [at1_other _ _ _ _ e1, at1_other _ _ _ _ e1]
      intro i u hu
      have hi : i < 3 := (List.getElem?_eq_some_iff.1 hu).1
      rw [World.cell?_setCell_other _ _ _ _ (by intro q; injection q with _ q2; omega)]
      exact hw.1 i u hu
  · refine ⟨?_, by rw [World.frozen?_setCell]; exact (hw.2 i hi).2⟩
    by_cases e1 : (⟨r, b * 3 + j, none⟩ : Addr) = ⟨r, k * 3 + i, none⟩
    · have := (hw.2 i hi).1
      cases hc : w.cell? ⟨r, k * 3 + i, none⟩ with
      | none => rw [hc] at this; cases this
      | some u => rw [e1, World.cell?_setCell_same _ _ _ hc]; rfl
    · rw [World.cell?_setCell_other _ _ _ _ e1]; exact (hw.2 i hi).1
theorem Lay.sts (h : Lay M w c r d q pv tv g N P S pl X) (b : Nat) (hb : b < N) (e : Int) (s : Bool) (j : Nat) (v : Value) (hj : j < 3) (hv : (stc (q b) P (xe X b) (xs X b)).set j v = stc (q b) P e s) : Lay M (w.setCell ⟨r, b * 3 + j, none⟩ v) c r d q pv tv g N P S pl (mkX (xi X) (xp X) (at1 (xe X) b e) (at1 (xs X) b s) (xo X) (xt X)) := by
  obtain ⟨h1, h2, h3, h4, h5, h6, h7, h8, h9, h10⟩ := h
  have hg := keep_set w r (b * 3 + j) v
  have hM : ∀ k, some r = some k → M k = true := fun k e => by injection e with e; rw [← e]; exact h2.1.2.1
  exact ⟨h1, h2, h3, h4.kept hg (h10.1) (by simp; exact h2.2.1.1), h5.kept hg (h10.2.2.1) (by simp; exact fun e => h2.2.1.2.2 e.symm), h6.put b hb e s j v hj hv, h7.kept hg h10.2.2.2 (fun b hb => by simp; exact (h2.2.2.1 b hb).2.1), h8.kept hg hM (own_ne fun k hk => (h3 k hk).2.1), h9.below (Frm.grown hg hM).hid0, h10.up hg.size⟩
theorem Lay.prs (h : Lay M w c r d q pv tv g N P S pl X) (b : Nat) (hb : b < N) (hg : w.grownBy w' (some (q b))) (l : List Int) (hA : Ar w' (q b) 0 .i64 l) (hl : l.length = P) : Lay M w' c r d q pv tv g N P S pl (mkX (xi X) (at1 (xp X) b l) (xe X) (xs X) (xo X) (xt X)) := by
  obtain ⟨h1, h2, h3, h4, h5, h6, h7, h8, h9, h10⟩ := h
  have hM : ∀ k, some (q b) = some k → M k = true := fun k e => by injection e with e; rw [← e]; exact h2.1.2.2.2 b hb
  have hq := h2.2.2.1 b hb
  refine ⟨h1, h2, h3, h4.kept hg (h10.1) (by simp; exact fun e => hq.1 e.symm), h5.kept hg (h10.2.2.1) (by simp; exact fun e => hq.2.2 e.symm), h6.kept hg (h10.2.1) (by simp; exact fun e => hq.2.1 e.symm), fun k hk => ?_, h8.kept hg hM (own_ne fun k hk e => (h3 k hk).2.2.2 b hb e.symm), h9.below (Frm.grown hg hM).hid0, h10.up hg.size⟩
  show Ar w' (q k) 0 .i64 (at1 (xp X) b l k) ∧ (at1 (xp X) b l k).length = P
  by_cases e : k = b
  · subst e
    rw [at1_same]; exact ⟨hA, hl⟩
  · rw [at1_other _ _ _ _ e]
    exact ⟨(h7 k hk).1.heap (hg.block (q k) (h10.2.2.2 k hk) (by simp; exact h2.2.2.2 k b hk hb e)), (h7 k hk).2⟩
theorem Lay.img (h : Lay M w c r d q pv tv g N P S pl X) (hg : w.grownBy w' (some d)) (l : List Int) (hA : Ar w' d 0 .u8 l) (hl : l.length = N * (P * S)) (ha : AllB l) : Lay M w' c r d q pv tv g N P S pl (mkX l (xp X) (xe X) (xs X) (xo X) (xt X)) := by
  obtain ⟨h1, h2, h3, h4, h5, h6, h7, h8, h9, h10⟩ := h
  have hM : ∀ k, some d = some k → M k = true := fun k e => by injection e with e; rw [← e]; exact h2.1.2.2.1
  exact ⟨h1, h2, h3, h4.kept hg (h10.1) (by simp; exact h2.2.1.2.1), ⟨hA, hl, ha⟩, h6.kept hg (h10.2.1) (by simp; exact h2.2.1.2.2), h7.kept hg h10.2.2.2 (fun b hb => by simp; exact (h2.2.2.1 b hb).2.2), h8.kept hg hM (own_ne fun k hk => (h3 k hk).2.2.1), h9.below (Frm.grown hg hM).hid0, h10.up hg.size⟩
theorem Lay.loc (h : Lay M w c r d q pv tv g N P S pl X) {x : Nat} (hg : w.grownBy w' (some x)) (hx : M x = true) (n1 : c ≠ x) (n2 : r ≠ x) (n3 : d ≠ x) (n4 : ∀ b, b < N → q b ≠ x) (n5 : ∀ k, tv.ownBlock = some k → k ≠ x) : Lay M w' c r d q pv tv g N P S pl X := by
  obtain ⟨h1, h2, h3, h4, h5, h6, h7, h8, h9, h10⟩ := h
  have hM : ∀ k, some x = some k → M k = true := fun k e => by injection e with e; rw [← e]; exact hx
  exact ⟨h1, h2, h3, h4.kept hg h10.1 (by simp; exact n1), h5.kept hg h10.2.2.1 (by simp; exact n3), h6.kept hg h10.2.1 (by simp; exact n2), h7.kept hg h10.2.2.2 (fun b hb => by simp; exact n4 b hb), h8.kept hg hM (own_ne n5), h9.below (Frm.grown hg hM).hid0, h10.up hg.size⟩
theorem Lay.more {M' : Nat → Bool} (h : Lay M w c r d q pv tv g N P S pl X) (hM : ∀ k, k < w.heap.size → M' k = M k) : Lay M' w c r d q pv tv g N P S pl X := by
  obtain ⟨h1, h2, h3, h4, h5, h6, h7, ⟨dv, t1, t2, t3⟩, h9, h10⟩ := h
  have hb := (Frm.refl M w).hid hM
  exact ⟨h1, ⟨⟨(hM _ h10.1).trans h2.1.1, (hM _ h10.2.1).trans h2.1.2.1, (hM _ h10.2.2.1).trans h2.1.2.2.1, fun b hb => (hM _ (h10.2.2.2 b hb)).trans (h2.1.2.2.2 b hb)⟩, h2.2⟩, h3, h4, h5, h6, h7, ⟨dv, t1, fun i hi => (t2 i hi).below hb, fun k hk => (hM k (t1.1.lt k hk).2).trans (t3 k hk)⟩, h9.below hb, h10⟩
theorem byt_less {M' : Nat → Bool} {v : Value} {xs : List Int} (h : Byt (hid M w) v xs) (hM : ∀ k, M' k = true → M k = true) : Byt (hid M' w) v xs := by
  obtain ⟨ao, cap, rfl, h1, h2, h3, h4, h5⟩ := h
  refine ⟨ao, cap, rfl, h1, h2, h3, h4, fun hp => ?_⟩
  obtain ⟨b, off, rfl, hc⟩ := h5 hp
  refine ⟨b, off, rfl, fun t ht => ?_⟩
  obtain ⟨e1, e2⟩ := hid_cell (hc t ht)
  refine cell_hid e1 ?_
  cases e : M' b with
  | false => rfl
  | true => rw [hM b e] at e2; cases e2
theorem range_less {M' : Nat → Bool} {b p : Nat} {cs : List Value} (h : (hid M w).rangeAt b p cs) (hM : ∀ k, M' k = true → M k = true) : (hid M' w).rangeAt b p cs := fun j v hv => by
  obtain ⟨e1, e2⟩ := hid_cell (h j v hv)
  refine cell_hid e1 ?_
  cases e : M' b with
  | false => rfl
  | true => rw [hM b e] at e2; cases e2
theorem pla_less {M' : Nat → Bool} {pv : Value} {pl : Pln} (h : Pla (hid M w) pv pl) (hM : ∀ k, M' k = true → M k = true) : Pla (hid M' w) pv pl := by
  obtain ⟨fs, ms, ⟨ao, cap, rfl, h1, h2, h3, h5⟩, h6, h7⟩ := h
  refine ⟨fs, ms, ⟨ao, cap, rfl, h1, h2, h3, fun hp => ?_⟩, fun t ht => ⟨byt_less (h6 t ht).1 hM, (h6 t ht).2⟩, h7⟩
  obtain ⟨b, off, rfl, hc⟩ := h5 hp
  exact ⟨b, off, rfl, fun t ht => FlA.of (range_less (hc t ht).range hM)⟩
theorem Lay.less {M' : Nat → Bool} (h : Lay M w c r d q pv tv g N P S pl X) (hM : ∀ k, M' k = true → M k = true) (n1 : M' c = true) (n2 : M' r = true) (n3 : M' d = true) (n4 : ∀ b, b < N → M' (q b) = true) (n5 : ∀ k, tv.ownBlock = some k → M' k = true) : Lay M' w c r d q pv tv g N P S pl X := by
  obtain ⟨h1, h2, h3, h4, h5, h6, h7, ⟨dv, t1, t2, t3⟩, h9, h10⟩ := h
  exact ⟨h1, ⟨⟨n1, n2, n3, n4⟩, h2.2⟩, h3, h4, h5, h6, h7, ⟨dv, t1, fun i hi => byt_less (t2 i hi) hM, n5⟩, pla_less h9 hM, h10⟩
theorem Lay.trc (h : Lay M w c r d q pv tv g N P S pl X) (o : Opn) (dv : Value) (tv' : Value) (hg : w.grownBy w' tv.ownBlock) (hw : tv'.ownBlock = tv.ownBlock ∨ ∃ k, tv'.ownBlock = some k ∧ w.heap.size ≤ k) (hd : Byt (hid M w) dv o.2.2.2.1) (dvs : Nat → Value) (t2 : ∀ i, i < (xt X).length → Byt (hid M w) (dvs i) (gO (xt X) i).2.2.2.1) (hO' : OwR 0 w' tv' 114 5 (opcs (xt X) dvs ++ [opc o dv])) :
    Lay (fun k => M k || decide (tv'.ownBlock = some k)) (w'.setCell ⟨c, 10, none⟩ tv') c r d q pv tv' g N P S pl (mkX (xi X) (xp X) (xe X) (xs X) (xo X) (xt X ++ [o])) ∧ (∀ k, k < w.heap.size → (M k || decide (tv'.ownBlock = some k)) = M k) ∧ Frm M w (w'.setCell ⟨c, 10, none⟩ tv') ∧ ∀ k, tv'.ownBlock = some k → k < (w'.setCell ⟨c, 10, none⟩ tv').heap.size := by
  obtain ⟨h1, h2, h3, h4, h5, h6, h7, h8, h9, h10⟩ := h
  obtain ⟨-, -, -, t3⟩ := h8
  have hlt : ∀ k, tv'.ownBlock = some k → k < w'.heap.size := fun k hk => (hO'.1.lt k hk).2
  have hsame : ∀ k, k < w.heap.size → (M k || decide (tv'.ownBlock = some k)) = M k := fun k hk => by
    by_cases e : tv'.ownBlock = some k
    · rcases hw with q | ⟨k', q, hk'⟩
      · rw [q] at e
        simp [t3 k e]
      · rw [q] at e
        injection e with e
        omega
    · simp [e]
  have hsep : Tsp tv' c r d q N := fun k hk => by
    rcases hw with e | ⟨k', e, hk'⟩
    · rw [e] at hk
      exact h3 k hk
    · rw [hk] at e
      injection e with e
      subst e
      exact ⟨fun e => by have := h10.1; omega, fun e => by have := h10.2.1; omega, fun e => by have := h10.2.2.1; omega, fun b hb e => by have := h10.2.2.2 b hb; omega⟩
  have hne : ∀ x, (∀ k, tv.ownBlock = some k → k ≠ x) → some x ≠ tv.ownBlock := fun x hx e => hx x e.symm rfl
  have n1 := hne c fun k hk => (h3 k hk).1
  have n2 := hne r fun k hk => (h3 k hk).2.1
  have n3 := hne d fun k hk => (h3 k hk).2.2.1
  have n4 : ∀ b, b < N → some (q b) ≠ tv.ownBlock := fun b hb => hne (q b) fun k hk e => (h3 k hk).2.2.2 b hb e.symm
  have hg2 := keep_set w' c 10 tv'
  have F1 : Frm M w w' := Frm.grown hg t3
  have F2 : Frm M w (w'.setCell ⟨c, 10, none⟩ tv') := F1.tr (Frm.set h2.1.1 10 tv')
  have hl := chc_len h1.1 (xo X) (N * (P * S)) d r N pv tv
  have z := hg.size
  have hb : Below (hid M w).heap.size (hid M w) (hid (fun k => M k || decide (tv'.ownBlock = some k)) (w'.setCell ⟨c, 10, none⟩ tv')) := F2.hid hsame
  refine ⟨⟨h1, ⟨⟨?_, ?_, ?_, fun b hb => ?_⟩, h2.2⟩, hsep, ?_, ?_, ?_, ?_, ⟨fun i => if i < (xt X).length then dvs i else dv, ?_, fun i hi => ?_, fun k hk => ?_⟩, h9.below hb, h10.up F2.size⟩, hsame, F2, fun k hk => Nat.lt_of_lt_of_le (hlt k hk) hg2.size⟩
  · simp [h2.1.1]
  · simp [h2.1.2.1]
  · simp [h2.1.2.2.1]
  · simp [h2.1.2.2.2 b hb]
  · have := (h4.kept hg (h10.1) n1).set 10 (by omega) tv'
    rw [chc_set10 h1.1] at this
    exact this
  · exact (h5.kept hg (h10.2.2.1) n3).kept hg2 (Nat.lt_of_lt_of_le (h10.2.2.1) z) (by simp; exact fun e => h2.2.1.2.1 e.symm)
  · exact (h6.kept hg (h10.2.1) n2).kept hg2 (Nat.lt_of_lt_of_le (h10.2.1) z) (by simp; exact fun e => h2.2.1.1 e.symm)
  · exact (h7.kept hg h10.2.2.2 n4).kept hg2 (fun b hb => Nat.lt_of_lt_of_le (h10.2.2.2 b hb) z) (fun b hb => by simp; exact (h2.2.2.1 b hb).1)
  · show OwR 0 _ tv' 114 5 (opcs (xt X ++ [o]) _)
    rw [opcs_app]
    exact hO'.kept hg2 (own_ne fun k hk => (hsep k hk).1)
  · have hi' : i < (xt X ++ [o]).length := hi
    rw [List.length_append, List.length_singleton] at hi'
    show Byt _ (if i < (xt X).length then dvs i else dv) (gO (xt X ++ [o]) i).2.2.2.1
    by_cases e : i < (xt X).length
    · rw [if_pos e, gO_app _ _ _ e]
      exact (t2 i e).below hb
    · rw [if_neg e, show i = (xt X).length by omega, gO_last]
      exact hd.below hb
  · simp [hk]
end
end Go.Proofs.YtakibiigcdgohaaGreatDoor.na
