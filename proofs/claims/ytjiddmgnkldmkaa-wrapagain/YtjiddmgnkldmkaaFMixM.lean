/- Columns of four bytes, mixed by four weights: as numbers. No claim of its own. -/
import Derived.Test.YtjiddmgnkldmkaaFMath
import Derived.Test.YtjiddmgnkldmkaaArrG
namespace Go.Proofs.Ytjiddmgnkldmkaa
open Go.RowKit

def gn (l : List Nat) (i : Nat) : Nat := l.getD i 0
/-- numbers, as whole numbers -/
def cI (l : List Nat) : List Int := l.map fun n : Nat => (n : Int)
theorem cI_len (l : List Nat) : (cI l).length = l.length := by simp [cI]
theorem gb_cI (l : List Nat) (i : Nat) : gb (cI l) i = (gn l i : Int) := by
  unfold gb cI gn
  by_cases h : i < l.length
  · simp [List.getD, h]
  · simp [List.getD, h]
/-- four bytes -/
def Col (l : List Nat) : Prop := l.length = 4 ∧ ∀ i, gn l i < 256

/-- a sum of four products -/
def tt (cs vs : List Nat) (i : Nat) : Nat := ((gm (gn vs 0) (gn cs i) ^^^ gm (gn vs 1) (gn cs ((i + 1) % 4))) ^^^ gm (gn vs 2) (gn cs ((i + 2) % 4))) ^^^ gm (gn vs 3) (gn cs ((i + 3) % 4))
/-- the first j of them -/
def acc (cs vs : List Nat) (i : Nat) : Nat → Nat
  | 0 => 0
  | j + 1 => acc cs vs i j ^^^ gm (gn vs j) (gn cs ((i + j) % 4))
theorem acc_four (cs vs : List Nat) (i : Nat) (h : i < 4) : acc cs vs i 4 = tt cs vs i := by
  simp only [acc, tt, Nat.zero_xor, Nat.add_zero, Nat.mod_eq_of_lt h]
theorem acc_lt (cs vs : List Nat) (hv : Col vs) (i j : Nat) : acc cs vs i j < 256 := by
  induction j with
  | zero => simp [acc]
  | succ j ih => exact xor_lt _ _ ih (gm_lt _ _ (hv.2 j))
theorem tt_lt (cs vs : List Nat) (hv : Col vs) (i : Nat) : tt cs vs i < 256 :=
  xor_lt _ _ (xor_lt _ _ (xor_lt _ _ (gm_lt _ _ (hv.2 0)) (gm_lt _ _ (hv.2 1))) (gm_lt _ _ (hv.2 2))) (gm_lt _ _ (hv.2 3))
def trn (cs vs : List Nat) : List Nat := [tt cs vs 0, tt cs vs 1, tt cs vs 2, tt cs vs 3]
theorem col4 (a b c d : Nat) (ha : a < 256) (hb : b < 256) (hc : c < 256) (hd : d < 256) : Col [a, b, c, d] := ⟨rfl, fun i => by
  match i with
  | 0 => exact ha
  | 1 => exact hb
  | 2 => exact hc
  | 3 => exact hd
  | _ + 4 => simp [gn]⟩
theorem trn_col (cs vs : List Nat) (hv : Col vs) : Col (trn cs vs) := col4 _ _ _ _ (tt_lt cs vs hv 0) (tt_lt cs vs hv 1) (tt_lt cs vs hv 2) (tt_lt cs vs hv 3)
/-- the sums as far as they are told -/
def prt (cs vs : List Nat) (i j : Nat) : List Int := (List.range 4).map fun t => ((if t < i then tt cs vs t else if t = i then acc cs vs i j else 0 : Nat) : Int)
theorem prt_len (cs vs : List Nat) (i j : Nat) : (prt cs vs i j).length = 4 := by simp [prt]
theorem gb_prt (cs vs : List Nat) (i j t : Nat) (ht : t < 4) : gb (prt cs vs i j) t = ((if t < i then tt cs vs t else if t = i then acc cs vs i j else 0 : Nat) : Int) := by
  simp [prt, gb, List.getD, ht]
def z4 : List Int := [0, 0, 0, 0]
theorem prt_zero (cs vs : List Nat) : prt cs vs 0 0 = z4 := ext_gb (by rw [prt_len]; rfl) fun t ht => by
  rw [prt_len] at ht
  rw [gb_prt _ _ _ _ _ ht]
  match t, ht with
  | 0, _ => rfl
  | 1, _ => rfl
  | 2, _ => rfl
  | 3, _ => rfl
theorem prt_at (cs vs : List Nat) (i j : Nat) (h : i < 4) : gb (prt cs vs i j) i = (acc cs vs i j : Int) := by
  rw [gb_prt _ _ _ _ _ h]; simp
theorem gb_set (xs : List Int) (i t : Nat) (x : Int) (h : t < xs.length) : gb (xs.set i x) t = if i = t then x else gb xs t := by
  by_cases e : i = t
  · subst e; simp [gb, List.getD, h]
  · simp [gb, List.getD, e]
theorem prt_set (cs vs : List Nat) (i j : Nat) : (prt cs vs i j).set i ((acc cs vs i (j + 1) : Nat) : Int) = prt cs vs i (j + 1) := ext_gb (by simp [prt]) fun t ht => by
  rw [List.length_set, prt_len] at ht
  rw [gb_set _ _ _ _ (by rw [prt_len]; exact ht), gb_prt _ _ _ _ _ ht, gb_prt _ _ _ _ _ ht]
  by_cases e : i = t
  · subst e; simp
  · rw [if_neg e]
    have : ¬ t = i := fun h => e h.symm
    simp [this]
theorem prt_row (cs vs : List Nat) (i : Nat) (h : i < 4) : prt cs vs i 4 = prt cs vs (i + 1) 0 := ext_gb (by simp [prt]) fun t ht => by
  rw [prt_len] at ht
  rw [gb_prt _ _ _ _ _ ht, gb_prt _ _ _ _ _ ht, acc_four cs vs i h]
  congr 1
  by_cases h1 : t < i
  · rw [if_pos h1, if_pos (by omega)]
  · rw [if_neg h1]
    by_cases h2 : t = i
    · subst h2; simp
    · rw [if_neg h2, if_neg (by omega)]; simp [acc]
theorem prt_end (cs vs : List Nat) : prt cs vs 4 0 = cI (trn cs vs) := rfl
theorem prt_put (cs vs : List Nat) (i : Nat) (h : i < 4) : (prt cs vs i 0).set i ((tt cs vs i : Nat) : Int) = prt cs vs (i + 1) 0 := by
  rw [← prt_row cs vs i h]
  refine ext_gb (by simp [prt]) fun t ht => ?_
  rw [List.length_set, prt_len] at ht
  rw [gb_set _ _ _ _ (by rw [prt_len]; exact ht), gb_prt _ _ _ _ _ ht, gb_prt _ _ _ _ _ ht, acc_four cs vs i h]
  by_cases e : i = t
  · subst e; simp
  · rw [if_neg e]
    have : ¬ t = i := fun h => e h.symm
    simp [this]

theorem dist_gm (a b x : Nat) : gm (a ^^^ b) x = gm a x ^^^ gm b x := gmf_xor 8 a b x
/-- one sum -/
def s4 (v0 v1 v2 v3 a b c d : Nat) : Nat := ((gm v0 a ^^^ gm v1 b) ^^^ gm v2 c) ^^^ gm v3 d
theorem sum_again (u0 u1 u2 u3 v0 v1 v2 v3 a b c d : Nat) (h0 : u0 < 256) (h1 : u1 < 256) (h2 : u2 < 256) (h3 : u3 < 256) (k0 : v0 < 256) (k1 : v1 < 256) (k2 : v2 < 256) (k3 : v3 < 256) :
    s4 u0 u1 u2 u3 (s4 v0 v1 v2 v3 a b c d) (s4 v0 v1 v2 v3 b c d a) (s4 v0 v1 v2 v3 c d a b) (s4 v0 v1 v2 v3 d a b c)
      = s4 (((gm u0 v0 ^^^ gm u1 v3) ^^^ gm u2 v2) ^^^ gm u3 v1) (((gm u0 v1 ^^^ gm u1 v0) ^^^ gm u2 v3) ^^^ gm u3 v2) (((gm u0 v2 ^^^ gm u1 v1) ^^^ gm u2 v0) ^^^ gm u3 v3) (((gm u0 v3 ^^^ gm u1 v2) ^^^ gm u2 v1) ^^^ gm u3 v0) a b c d := by
  simp only [s4, gm_dist, dist_gm]
  rw [gm_assoc u0 v0 a h0 k0, gm_assoc u0 v1 b h0 k1, gm_assoc u0 v2 c h0 k2, gm_assoc u0 v3 d h0 k3,
    gm_assoc u1 v3 a h1 k3, gm_assoc u1 v0 b h1 k0, gm_assoc u1 v1 c h1 k1, gm_assoc u1 v2 d h1 k2,
    gm_assoc u2 v2 a h2 k2, gm_assoc u2 v3 b h2 k3, gm_assoc u2 v0 c h2 k0, gm_assoc u2 v1 d h2 k1,
    gm_assoc u3 v1 a h3 k1, gm_assoc u3 v2 b h3 k2, gm_assoc u3 v3 c h3 k3, gm_assoc u3 v0 d h3 k0]
  ac_rfl
theorem s4_one (a b c d : Nat) (ha : a < 256) : s4 1 0 0 0 a b c d = a := by simp [s4, zero_gm, one_gm a ha]
theorem trn_eq (a b c d v0 v1 v2 v3 : Nat) : trn [a, b, c, d] [v0, v1, v2, v3] = [s4 v0 v1 v2 v3 a b c d, s4 v0 v1 v2 v3 b c d a, s4 v0 v1 v2 v3 c d a b, s4 v0 v1 v2 v3 d a b c] := rfl
theorem back_by (a b c d : Nat) (u0 u1 u2 u3 v0 v1 v2 v3 : Nat) (h0 : u0 < 256) (h1 : u1 < 256) (h2 : u2 < 256) (h3 : u3 < 256) (k0 : v0 < 256) (k1 : v1 < 256) (k2 : v2 < 256) (k3 : v3 < 256)
    (e0 : ((gm u0 v0 ^^^ gm u1 v3) ^^^ gm u2 v2) ^^^ gm u3 v1 = 1) (e1 : ((gm u0 v1 ^^^ gm u1 v0) ^^^ gm u2 v3) ^^^ gm u3 v2 = 0) (e2 : ((gm u0 v2 ^^^ gm u1 v1) ^^^ gm u2 v0) ^^^ gm u3 v3 = 0) (e3 : ((gm u0 v3 ^^^ gm u1 v2) ^^^ gm u2 v1) ^^^ gm u3 v0 = 0)
    (ha : a < 256) (hb : b < 256) (hc : c < 256) (hd : d < 256) : trn (trn [a, b, c, d] [v0, v1, v2, v3]) [u0, u1, u2, u3] = [a, b, c, d] := by
  rw [trn_eq, trn_eq]
  rw [sum_again u0 u1 u2 u3 v0 v1 v2 v3 a b c d h0 h1 h2 h3 k0 k1 k2 k3, sum_again u0 u1 u2 u3 v0 v1 v2 v3 b c d a h0 h1 h2 h3 k0 k1 k2 k3,
    sum_again u0 u1 u2 u3 v0 v1 v2 v3 c d a b h0 h1 h2 h3 k0 k1 k2 k3, sum_again u0 u1 u2 u3 v0 v1 v2 v3 d a b c h0 h1 h2 h3 k0 k1 k2 k3]
  rw [e0, e1, e2, e3, s4_one _ _ _ _ ha, s4_one _ _ _ _ hb, s4_one _ _ _ _ hc, s4_one _ _ _ _ hd]
def mixW : List Nat := [2, 3, 1, 1]
def unmW : List Nat := [14, 11, 13, 9]
theorem four_of (l : List Nat) (h : Col l) : ∃ a b c d, l = [a, b, c, d] ∧ a < 256 ∧ b < 256 ∧ c < 256 ∧ d < 256 := by
  obtain ⟨hl, hb⟩ := h
  match l, hl with
  | [a, b, c, d], _ => exact ⟨a, b, c, d, rfl, hb 0, hb 1, hb 2, hb 3⟩
theorem unmix_mix (l : List Nat) (h : Col l) : trn (trn l mixW) unmW = l := by
  obtain ⟨a, b, c, d, rfl, ha, hb, hc, hd⟩ := four_of l h
  exact back_by a b c d 14 11 13 9 2 3 1 1 (by omega) (by omega) (by omega) (by omega) (by omega) (by omega) (by omega) (by omega) (by decide +kernel) (by decide +kernel) (by decide +kernel) (by decide +kernel) ha hb hc hd
theorem mix_unmix (l : List Nat) (h : Col l) : trn (trn l unmW) mixW = l := by
  obtain ⟨a, b, c, d, rfl, ha, hb, hc, hd⟩ := four_of l h
  exact back_by a b c d 2 3 1 1 14 11 13 9 (by omega) (by omega) (by omega) (by omega) (by omega) (by omega) (by omega) (by omega) (by decide +kernel) (by decide +kernel) (by decide +kernel) (by decide +kernel) ha hb hc hd
theorem mixW_col : Col mixW := col4 _ _ _ _ (by omega) (by omega) (by omega) (by omega)
theorem unmW_col : Col unmW := col4 _ _ _ _ (by omega) (by omega) (by omega) (by omega)
end Go.Proofs.Ytjiddmgnkldmkaa
