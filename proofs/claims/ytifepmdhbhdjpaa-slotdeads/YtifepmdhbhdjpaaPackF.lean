/- Texts put together (a claim holds few files). No claim of its own. -/
import Derived.Test.YtifepmdhbhdjpaaPackE
import Derived.Test.YtifepmdhbhdjpaaPackA
import Derived.Test.YtifepmdhbhdjpaaPackC
import Derived.Laws.AppendOwnNone
import Derived.Test.YtifepmdhbhdjpaaPackB
import Derived.ArgAppend
import Derived.Lib.AppendZeros
import Derived.Test.YtifepmdhbhdjpaaPackD
/- Columns of four bytes, mixed by four weights: as numbers. No claim of its own. -/
namespace Go.Proofs.Ytifepmdhbhdjpaa
open Go.RowKit
set_option maxRecDepth 20000

def gn (l : List Nat) (i : Nat) : Nat := l.getD i 0
/-- numbers, as whole numbers -/
def cI (l : List Nat) : List Int := l.map fun n : Nat => (n : Int)
theorem cI_len (l : List Nat) : (cI l).length = l.length := by simp [cI]
theorem gb_cI (l : List Nat) (i : Nat) : gb (cI l) i = (gn l i : Int) := by
  unfold gb cI gn
  by_cases h : i < l.length
  · simp [List.getD, h]
  · simp [List.getD, h]
/-- four bytes -/
def Col (l : List Nat) : Prop := l.length = 4 ∧ ∀ i, gn l i < 256

/-- a sum of four products -/
def tt (cs vs : List Nat) (i : Nat) : Nat := ((gm (gn vs 0) (gn cs i) ^^^ gm (gn vs 1) (gn cs ((i + 1) % 4))) ^^^ gm (gn vs 2) (gn cs ((i + 2) % 4))) ^^^ gm (gn vs 3) (gn cs ((i + 3) % 4))
/-- the first j of them -/
def acc (cs vs : List Nat) (i : Nat) : Nat → Nat
  | 0 => 0
  | j + 1 => acc cs vs i j ^^^ gm (gn vs j) (gn cs ((i + j) % 4))
theorem acc_four (cs vs : List Nat) (i : Nat) (h : i < 4) : acc cs vs i 4 = tt cs vs i := by
  simp only [acc, tt, Nat.zero_xor, Nat.add_zero, Nat.mod_eq_of_lt h]
theorem acc_lt (cs vs : List Nat) (hv : Col vs) (i j : Nat) : acc cs vs i j < 256 := by
  induction j with
  | zero => simp [acc]
  | succ j ih => exact xor_lt _ _ ih (gm_lt _ _ (hv.2 j))
theorem tt_lt (cs vs : List Nat) (hv : Col vs) (i : Nat) : tt cs vs i < 256 :=
  xor_lt _ _ (xor_lt _ _ (xor_lt _ _ (gm_lt _ _ (hv.2 0)) (gm_lt _ _ (hv.2 1))) (gm_lt _ _ (hv.2 2))) (gm_lt _ _ (hv.2 3))
def trn (cs vs : List Nat) : List Nat := [tt cs vs 0, tt cs vs 1, tt cs vs 2, tt cs vs 3]
theorem col4 (a b c d : Nat) (ha : a < 256) (hb : b < 256) (hc : c < 256) (hd : d < 256) : Col [a, b, c, d] := ⟨rfl, fun i => by
  match i with
  | 0 => exact ha
  | 1 => exact hb
  | 2 => exact hc
  | 3 => exact hd
  | _ + 4 => simp [gn]⟩
theorem trn_col (cs vs : List Nat) (hv : Col vs) : Col (trn cs vs) := col4 _ _ _ _ (tt_lt cs vs hv 0) (tt_lt cs vs hv 1) (tt_lt cs vs hv 2) (tt_lt cs vs hv 3)
/-- the sums as far as they are told -/
def prt (cs vs : List Nat) (i j : Nat) : List Int := (List.range 4).map fun t => ((if t < i then tt cs vs t else if t = i then acc cs vs i j else 0 : Nat) : Int)
theorem prt_len (cs vs : List Nat) (i j : Nat) : (prt cs vs i j).length = 4 := by simp [prt]
theorem gb_prt (cs vs : List Nat) (i j t : Nat) (ht : t < 4) : gb (prt cs vs i j) t = ((if t < i then tt cs vs t else if t = i then acc cs vs i j else 0 : Nat) : Int) := by
  simp [prt, gb, List.getD, ht]
def z4 : List Int := [0, 0, 0, 0]
theorem prt_zero (cs vs : List Nat) : prt cs vs 0 0 = z4 := ext_gb (by rw [prt_len]; rfl) fun t ht => by
  rw [prt_len] at ht
  rw [gb_prt _ _ _ _ _ ht]
  match t, ht with
  | 0, _ => rfl
  | 1, _ => rfl
  | 2, _ => rfl
  | 3, _ => rfl
theorem prt_at (cs vs : List Nat) (i j : Nat) (h : i < 4) : gb (prt cs vs i j) i = (acc cs vs i j : Int) := by
  rw [gb_prt _ _ _ _ _ h]; simp
theorem gb_set (xs : List Int) (i t : Nat) (x : Int) (h : t < xs.length) : gb (xs.set i x) t = if i = t then x else gb xs t := by
  by_cases e : i = t
  · subst e; simp [gb, List.getD, h]
  · simp [gb, List.getD, e]
theorem prt_set (cs vs : List Nat) (i j : Nat) : (prt cs vs i j).set i ((acc cs vs i (j + 1) : Nat) : Int) = prt cs vs i (j + 1) := ext_gb (by simp [prt]) fun t ht => by
  rw [List.length_set, prt_len] at ht
  rw [gb_set _ _ _ _ (by rw [prt_len]; exact ht), gb_prt _ _ _ _ _ ht, gb_prt _ _ _ _ _ ht]
  by_cases e : i = t
  · subst e; simp
  · rw [if_neg e]
    have : ¬ t = i := fun h => e h.symm
    simp [this]
theorem prt_row (cs vs : List Nat) (i : Nat) (h : i < 4) : prt cs vs i 4 = prt cs vs (i + 1) 0 := ext_gb (by simp [prt]) fun t ht => by
  rw [prt_len] at ht
  rw [gb_prt _ _ _ _ _ ht, gb_prt _ _ _ _ _ ht, acc_four cs vs i h]
  congr 1
  by_cases h1 : t < i
  · rw [if_pos h1, if_pos (by omega)]
  · rw [if_neg h1]
    by_cases h2 : t = i
    · subst h2; simp
    · rw [if_neg h2, if_neg (by omega)]; simp [acc]
theorem prt_end (cs vs : List Nat) : prt cs vs 4 0 = cI (trn cs vs) := rfl
theorem prt_put (cs vs : List Nat) (i : Nat) (h : i < 4) : (prt cs vs i 0).set i ((tt cs vs i : Nat) : Int) = prt cs vs (i + 1) 0 := by
  rw [← prt_row cs vs i h]
  refine ext_gb (by simp [prt]) fun t ht => ?_
  rw [List.length_set, prt_len] at ht
  rw [gb_set _ _ _ _ (by rw [prt_len]; exact ht), gb_prt _ _ _ _ _ ht, gb_prt _ _ _ _ _ ht, acc_four cs vs i h]
  by_cases e : i = t
  · subst e; simp
  · rw [if_neg e]
    have : ¬ t = i := fun h => e h.symm
    simp [this]

theorem dist_gm (a b x : Nat) : gm (a ^^^ b) x = gm a x ^^^ gm b x := gmf_xor 8 a b x
/-- one sum -/
def s4 (v0 v1 v2 v3 a b c d : Nat) : Nat := ((gm v0 a ^^^ gm v1 b) ^^^ gm v2 c) ^^^ gm v3 d
theorem sum_again (u0 u1 u2 u3 v0 v1 v2 v3 a b c d : Nat) (h0 : u0 < 256) (h1 : u1 < 256) (h2 : u2 < 256) (h3 : u3 < 256) (k0 : v0 < 256) (k1 : v1 < 256) (k2 : v2 < 256) (k3 : v3 < 256) :
    s4 u0 u1 u2 u3 (s4 v0 v1 v2 v3 a b c d) (s4 v0 v1 v2 v3 b c d a) (s4 v0 v1 v2 v3 c d a b) (s4 v0 v1 v2 v3 d a b c)
      = s4 (((gm u0 v0 ^^^ gm u1 v3) ^^^ gm u2 v2) ^^^ gm u3 v1) (((gm u0 v1 ^^^ gm u1 v0) ^^^ gm u2 v3) ^^^ gm u3 v2) (((gm u0 v2 ^^^ gm u1 v1) ^^^ gm u2 v0) ^^^ gm u3 v3) (((gm u0 v3 ^^^ gm u1 v2) ^^^ gm u2 v1) ^^^ gm u3 v0) a b c d := by
  simp only [s4, gm_dist, dist_gm]
  rw [gm_assoc u0 v0 a h0 k0, gm_assoc u0 v1 b h0 k1, gm_assoc u0 v2 c h0 k2, gm_assoc u0 v3 d h0 k3,
    gm_assoc u1 v3 a h1 k3, gm_assoc u1 v0 b h1 k0, gm_assoc u1 v1 c h1 k1, gm_assoc u1 v2 d h1 k2,
    gm_assoc u2 v2 a h2 k2, gm_assoc u2 v3 b h2 k3, gm_assoc u2 v0 c h2 k0, gm_assoc u2 v1 d h2 k1,
    gm_assoc u3 v1 a h3 k1, gm_assoc u3 v2 b h3 k2, gm_assoc u3 v3 c h3 k3, gm_assoc u3 v0 d h3 k0]
  ac_rfl
theorem s4_one (a b c d : Nat) (ha : a < 256) : s4 1 0 0 0 a b c d = a := by simp [s4, zero_gm, one_gm a ha]
theorem trn_eq (a b c d v0 v1 v2 v3 : Nat) : trn [a, b, c, d] [v0, v1, v2, v3] = [s4 v0 v1 v2 v3 a b c d, s4 v0 v1 v2 v3 b c d a, s4 v0 v1 v2 v3 c d a b, s4 v0 v1 v2 v3 d a b c] := rfl
theorem back_by (a b c d : Nat) (u0 u1 u2 u3 v0 v1 v2 v3 : Nat) (h0 : u0 < 256) (h1 : u1 < 256) (h2 : u2 < 256) (h3 : u3 < 256) (k0 : v0 < 256) (k1 : v1 < 256) (k2 : v2 < 256) (k3 : v3 < 256)
    (e0 : ((gm u0 v0 ^^^ gm u1 v3) ^^^ gm u2 v2) ^^^ gm u3 v1 = 1) (e1 : ((gm u0 v1 ^^^ gm u1 v0) ^^^ gm u2 v3) ^^^ gm u3 v2 = 0) (e2 : ((gm u0 v2 ^^^ gm u1 v1) ^^^ gm u2 v0) ^^^ gm u3 v3 = 0) (e3 : ((gm u0 v3 ^^^ gm u1 v2) ^^^ gm u2 v1) ^^^ gm u3 v0 = 0)
    (ha : a < 256) (hb : b < 256) (hc : c < 256) (hd : d < 256) : trn (trn [a, b, c, d] [v0, v1, v2, v3]) [u0, u1, u2, u3] = [a, b, c, d] := by
  rw [trn_eq, trn_eq]
  rw [sum_again u0 u1 u2 u3 v0 v1 v2 v3 a b c d h0 h1 h2 h3 k0 k1 k2 k3, sum_again u0 u1 u2 u3 v0 v1 v2 v3 b c d a h0 h1 h2 h3 k0 k1 k2 k3,
    sum_again u0 u1 u2 u3 v0 v1 v2 v3 c d a b h0 h1 h2 h3 k0 k1 k2 k3, sum_again u0 u1 u2 u3 v0 v1 v2 v3 d a b c h0 h1 h2 h3 k0 k1 k2 k3]
  rw [e0, e1, e2, e3, s4_one _ _ _ _ ha, s4_one _ _ _ _ hb, s4_one _ _ _ _ hc, s4_one _ _ _ _ hd]
def mixW : List Nat := [2, 3, 1, 1]
def unmW : List Nat := [14, 11, 13, 9]
theorem four_of (l : List Nat) (h : Col l) : ∃ a b c d, l = [a, b, c, d] ∧ a < 256 ∧ b < 256 ∧ c < 256 ∧ d < 256 := by
  obtain ⟨hl, hb⟩ := h
  match l, hl with
  | [a, b, c, d], _ => exact ⟨a, b, c, d, rfl, hb 0, hb 1, hb 2, hb 3⟩
theorem unmix_mix (l : List Nat) (h : Col l) : trn (trn l mixW) unmW = l := by
  obtain ⟨a, b, c, d, rfl, ha, hb, hc, hd⟩ := four_of l h
  exact back_by a b c d 14 11 13 9 2 3 1 1 (by omega) (by omega) (by omega) (by omega) (by omega) (by omega) (by omega) (by omega) (by decide +kernel) (by decide +kernel) (by decide +kernel) (by decide +kernel) ha hb hc hd
theorem mix_unmix (l : List Nat) (h : Col l) : trn (trn l unmW) mixW = l := by
  obtain ⟨a, b, c, d, rfl, ha, hb, hc, hd⟩ := four_of l h
  exact back_by a b c d 2 3 1 1 14 11 13 9 (by omega) (by omega) (by omega) (by omega) (by omega) (by omega) (by omega) (by omega) (by decide +kernel) (by decide +kernel) (by decide +kernel) (by decide +kernel) ha hb hc hd
theorem mixW_col : Col mixW := col4 _ _ _ _ (by omega) (by omega) (by omega) (by omega)
theorem unmW_col : Col unmW := col4 _ _ _ _ (by omega) (by omega) (by omega) (by omega)
end Go.Proofs.Ytifepmdhbhdjpaa

/- AES with keys of 32 bytes, on lists of bytes: a key's words, rounds, encrypting and decrypting; that each undoes the other. No claim of its own. -/
namespace Go.Proofs.Ytifepmdhbhdjpaa
open Go.RowKit
set_option maxRecDepth 20000

/-- sixteen bytes -/
def Blk (b : List Int) : Prop := b.length = 16 ∧ AllB b
theorem range_gb (f : Nat → Int) (n t : Nat) (h : t < n) : gb ((List.range n).map f) t = f t := by simp [gb, List.getD, h]

/-! ### rows shifted -/
def shi (i by_ : Nat) : Nat := 4 * ((i / 4 + by_ * (i % 4)) % 4) + i % 4
def shl16 (b : List Int) (by_ : Nat) : List Int := (List.range 16).map fun i => gb b (shi i by_)
theorem shl16_len (b : List Int) (n : Nat) : (shl16 b n).length = 16 := by simp [shl16]
theorem shl16_gb (b : List Int) (n t : Nat) (h : t < 16) : gb (shl16 b n) t = gb b (shi t n) := range_gb _ _ _ h
theorem shl16_all (b : List Int) (n : Nat) (h : AllB b) : AllB (shl16 b n) := allB_mem fun x hx => by
  obtain ⟨i, _, rfl⟩ := List.mem_map.1 hx
  exact h _
theorem shl16_blk (b : List Int) (n : Nat) (h : Blk b) : Blk (shl16 b n) := ⟨shl16_len b n, shl16_all b n h.2⟩
theorem shi_lt (i n : Nat) : shi i n < 16 := by unfold shi; omega
theorem shi_31 : ∀ i, i < 16 → shi (shi i 3) 1 = i := by decide
theorem shi_13 : ∀ i, i < 16 → shi (shi i 1) 3 = i := by decide
theorem shl_31 (b : List Int) (h : b.length = 16) : shl16 (shl16 b 1) 3 = b := ext_gb (by rw [shl16_len, h]) fun t ht => by
  rw [shl16_len] at ht
  rw [shl16_gb _ _ _ ht, shl16_gb _ _ _ (shi_lt t 3), shi_31 t ht]
theorem shl_13 (b : List Int) (h : b.length = 16) : shl16 (shl16 b 3) 1 = b := ext_gb (by rw [shl16_len, h]) fun t ht => by
  rw [shl16_len] at ht
  rw [shl16_gb _ _ _ ht, shl16_gb _ _ _ (shi_lt t 1), shi_13 t ht]

/-! ### bytes put for -/
theorem tab_allB {tab : List Int} (h : tab.all (fun x => decide (0 ≤ x ∧ x ≤ 255)) = true) : AllB tab := allB_mem fun x hx => by
  simpa using List.all_eq_true.1 h x hx
theorem pAll : AllB ptab := tab_allB (by decide +kernel)
theorem bAll : AllB btab := tab_allB (by decide +kernel)
theorem looked_blk (tab b : List Int) (ht : AllB tab) (h : b.length = 16) : Blk (looked tab b) := ⟨by rw [looked_len, h], looked_all tab b ht⟩
theorem looked_bp (b : List Int) (h : AllB b) : looked btab (looked ptab b) = b := ext_gb (by rw [looked_len, looked_len]) fun t ht => by
  rw [looked_len, looked_len] at ht
  rw [looked_gb _ _ _ (by rw [looked_len]; exact ht), looked_gb _ _ _ ht]
  have hb := h t
  have h8 : (gb b t).toNat < 256 := by omega
  rw [gb_p _ h8, Int.toNat_natCast, gb_b _ (sb_lt _ h8), sk_sb _ h8]
  omega
theorem looked_pb (b : List Int) (h : AllB b) : looked ptab (looked btab b) = b := ext_gb (by rw [looked_len, looked_len]) fun t ht => by
  rw [looked_len, looked_len] at ht
  rw [looked_gb _ _ _ (by rw [looked_len]; exact ht), looked_gb _ _ _ ht]
  have hb := h t
  have h8 : (gb b t).toNat < 256 := by omega
  rw [gb_b _ h8, Int.toNat_natCast, gb_p _ (sk_lt _ h8), sb_sk _ h8]
  omega

/-! ### columns mixed -/
def colOf (b : List Int) (c : Nat) : List Nat := [(gb b (4 * c)).toNat, (gb b (4 * c + 1)).toNat, (gb b (4 * c + 2)).toNat, (gb b (4 * c + 3)).toNat]
theorem colOf_col (b : List Int) (c : Nat) (h : AllB b) : Col (colOf b c) := by
  have h0 := h (4 * c)
  have h1 := h (4 * c + 1)
  have h2 := h (4 * c + 2)
  have h3 := h (4 * c + 3)
  exact col4 _ _ _ _ (by omega) (by omega) (by omega) (by omega)
theorem colOf_gn (b : List Int) (c i : Nat) (h : i < 4) : gn (colOf b c) i = (gb b (4 * c + i)).toNat := by
  match i, h with
  | 0, _ => rfl
  | 1, _ => rfl
  | 2, _ => rfl
  | 3, _ => rfl
def mixb (b : List Int) (ws : List Nat) : List Int := (List.range 16).map fun i => (gn (trn (colOf b (i / 4)) ws) (i % 4) : Int)
theorem mixb_len (b : List Int) (ws : List Nat) : (mixb b ws).length = 16 := by simp [mixb]
theorem mixb_gb (b : List Int) (ws : List Nat) (t : Nat) (h : t < 16) : gb (mixb b ws) t = (gn (trn (colOf b (t / 4)) ws) (t % 4) : Int) := range_gb _ _ _ h
theorem mixb_blk (b : List Int) (ws : List Nat) (hw : Col ws) : Blk (mixb b ws) := ⟨mixb_len b ws, allB_mem fun x hx => by
  obtain ⟨i, _, rfl⟩ := List.mem_map.1 hx
  have := (trn_col (colOf b (i / 4)) ws hw).2 (i % 4)
  omega⟩
theorem colOf_mixb (b : List Int) (ws : List Nat) (c : Nat) (h : c < 4) : colOf (mixb b ws) c = trn (colOf b c) ws := by
  have e : ∀ i, i < 4 → (gb (mixb b ws) (4 * c + i)).toNat = gn (trn (colOf b c) ws) i := fun i hi => by
    rw [mixb_gb b ws _ (by omega), show (4 * c + i) / 4 = c by omega, show (4 * c + i) % 4 = i by omega, Int.toNat_natCast]
  have e0 := e 0 (by omega)
  have e1 := e 1 (by omega)
  have e2 := e 2 (by omega)
  have e3 := e 3 (by omega)
  rw [Nat.add_zero] at e0
  unfold colOf at *
  rw [e0, e1, e2, e3]
  rfl
theorem mixb_back (b : List Int) (us vs : List Nat) (h : Blk b) (hb : ∀ l, Col l → trn (trn l us) vs = l) : mixb (mixb b us) vs = b := ext_gb (by rw [mixb_len, h.1]) fun t ht => by
  rw [mixb_len] at ht
  rw [mixb_gb _ _ _ ht, colOf_mixb b us _ (by omega), hb _ (colOf_col b _ h.2), colOf_gn b _ _ (by omega), show 4 * (t / 4) + t % 4 = t by omega]
  have := h.2 t
  omega
theorem mixb_um (b : List Int) (h : Blk b) : mixb (mixb b mixW) unmW = b := mixb_back b mixW unmW h unmix_mix
theorem mixb_mu (b : List Int) (h : Blk b) : mixb (mixb b unmW) mixW = b := mixb_back b unmW mixW h mix_unmix

/-! ### a key's words -/
/-- four bytes -/
def Wd (x : List Int) : Prop := x.length = 4 ∧ AllB x
def cut4 (key : List Int) (i : Nat) : List Int := (key.take (4 * i + 4)).drop (4 * i)
/-- what is xored to the word eight ahead -/
def mid (i : Nat) (x : List Int) : List Int :=
  if i % 8 = 0 then [xr (gb ptab (gb x 1).toNat) (pw 2 (i / 8 - 1) : Int), gb ptab (gb x 2).toNat, gb ptab (gb x 3).toNat, gb ptab (gb x 0).toNat]
  else if i % 8 = 4 then [gb ptab (gb x 0).toNat, gb ptab (gb x 1).toNat, gb ptab (gb x 2).toNat, gb ptab (gb x 3).toNat] else x
/-- the next word -/
def nxt (key : List Int) (ws : List (List Int)) (i : Nat) : List Int := if i < 8 then cut4 key i else xorl (ws.getD (i - 8) []) (mid i (ws.getD (i - 1) []))
/-- the first n words -/
def wds (key : List Int) : Nat → List (List Int)
  | 0 => []
  | n + 1 => wds key n ++ [nxt key (wds key n) n]
theorem wds_len (key : List Int) (n : Nat) : (wds key n).length = n := by
  induction n with
  | zero => rfl
  | succ n ih => simp [wds, ih]
/-- word i -/
def wd (key : List Int) (i : Nat) : List Int := nxt key (wds key i) i
theorem wds_get (key : List Int) (n i : Nat) (h : i < n) : (wds key n).getD i [] = wd key i := by
  induction n with
  | zero => omega
  | succ n ih =>
    rw [wds, List.getD_eq_getElem?_getD]
    by_cases h' : i < n
    · rw [List.getElem?_append_left (by rw [wds_len]; exact h'), ← List.getD_eq_getElem?_getD, ih h']
    · have : i = n := by omega
      subst this
      rw [List.getElem?_append_right (by rw [wds_len]; omega), wds_len]
      simp [wd]
theorem wd_eq (key : List Int) (i : Nat) : wd key i = if i < 8 then cut4 key i else xorl (wd key (i - 8)) (mid i (wd key (i - 1))) := by
  rw [wd, nxt]
  by_cases h : i < 8
  · rw [if_pos h, if_pos h]
  · rw [if_neg h, if_neg h, wds_get key i (i - 8) (by omega), wds_get key i (i - 1) (by omega)]
theorem wd4 (a b c d : Int) (ha : 0 ≤ a ∧ a ≤ 255) (hb : 0 ≤ b ∧ b ≤ 255) (hc : 0 ≤ c ∧ c ≤ 255) (hd : 0 ≤ d ∧ d ≤ 255) : Wd [a, b, c, d] := ⟨rfl, allB_mem fun x hx => by
  simp at hx
  rcases hx with rfl | rfl | rfl | rfl <;> assumption⟩
theorem mid_wd (i : Nat) (x : List Int) (h : Wd x) : Wd (mid i x) := by
  have hp : ∀ j, 0 ≤ gb ptab j ∧ gb ptab j ≤ 255 := pAll
  unfold mid
  by_cases h0 : i % 8 = 0
  · rw [if_pos h0]
    have := pw_lt 2 (i / 8 - 1)
    exact wd4 _ _ _ _ (xr_bd _ _ (hp _) (by omega)) (hp _) (hp _) (hp _)
  · rw [if_neg h0]
    by_cases h4 : i % 8 = 4
    · rw [if_pos h4]; exact wd4 _ _ _ _ (hp _) (hp _) (hp _) (hp _)
    · rw [if_neg h4]; exact h
theorem cut4_gb (key : List Int) (i t : Nat) (h : t < 4) : gb (cut4 key i) t = gb key (4 * i + t) := gb_cut key (4 * i) (4 * i + 4) t (by omega)
theorem cut4_wd (key : List Int) (i : Nat) (hk : AllB key) (h : 4 * i + 4 ≤ key.length) : Wd (cut4 key i) := ⟨by simp [cut4]; omega, allB_mem fun x hx => by
  obtain ⟨j, hj, rfl⟩ := mem_gb (List.mem_of_mem_take (List.mem_of_mem_drop hx))
  exact hk j⟩
theorem xorl_wd (x y : List Int) (hx : Wd x) (hy : Wd y) : Wd (xorl x y) := ⟨by rw [xorl_len _ _ (by rw [hx.1, hy.1]), hx.1], xorl_all _ _ (by rw [hx.1, hy.1]) hx.2 hy.2⟩
theorem wd_wd (key : List Int) (hk : key.length = 32) (ha : AllB key) (i : Nat) : Wd (wd key i) := by
  induction i using Nat.strongRecOn with
  | ind i ih =>
    rw [wd_eq]
    by_cases h : i < 8
    · rw [if_pos h]; exact cut4_wd key i ha (by omega)
    · rw [if_neg h]; exact xorl_wd _ _ (ih _ (by omega)) (mid_wd i _ (ih _ (by omega)))
/-- a round's key -/
def rk (key : List Int) (r : Nat) : List Int := wd key (4 * r) ++ wd key (4 * r + 1) ++ wd key (4 * r + 2) ++ wd key (4 * r + 3)
theorem rk_blk (key : List Int) (hk : key.length = 32) (ha : AllB key) (r : Nat) : Blk (rk key r) := by
  have h0 := wd_wd key hk ha (4 * r)
  have h1 := wd_wd key hk ha (4 * r + 1)
  have h2 := wd_wd key hk ha (4 * r + 2)
  have h3 := wd_wd key hk ha (4 * r + 3)
  refine ⟨by simp [rk, h0.1, h1.1, h2.1, h3.1], allB_mem fun x hx => ?_⟩
  simp only [rk, List.mem_append] at hx
  rcases hx with ((hx | hx) | hx) | hx
  · obtain ⟨j, _, rfl⟩ := mem_gb hx; exact h0.2 j
  · obtain ⟨j, _, rfl⟩ := mem_gb hx; exact h1.2 j
  · obtain ⟨j, _, rfl⟩ := mem_gb hx; exact h2.2 j
  · obtain ⟨j, _, rfl⟩ := mem_gb hx; exact h3.2 j

/-! ### rounds -/
theorem xorl_blk (x y : List Int) (hx : Blk x) (hy : Blk y) : Blk (xorl x y) := ⟨by rw [xorl_len _ _ (by rw [hx.1, hy.1]), hx.1], xorl_all _ _ (by rw [hx.1, hy.1]) hx.2 hy.2⟩
theorem xorl_bb (x y : List Int) (hx : Blk x) (hy : Blk y) : xorl (xorl x y) y = x := xorl_back x y (by rw [hx.1, hy.1]) hx.2
/-- mixing, in all rounds but the last -/
def mx (r : Nat) (b : List Int) : List Int := if r < 14 then mixb b mixW else b
def um (r : Nat) (b : List Int) : List Int := if r < 14 then mixb b unmW else b
theorem mx_blk (r : Nat) (b : List Int) (h : Blk b) : Blk (mx r b) := by unfold mx; split; exact mixb_blk _ _ mixW_col; exact h
theorem um_blk (r : Nat) (b : List Int) (h : Blk b) : Blk (um r b) := by unfold um; split; exact mixb_blk _ _ unmW_col; exact h
theorem um_mx (r : Nat) (b : List Int) (h : Blk b) : um r (mx r b) = b := by
  unfold um mx
  by_cases hr : r < 14
  · rw [if_pos hr, if_pos hr, mixb_um b h]
  · rw [if_neg hr, if_neg hr]
theorem mx_um (r : Nat) (b : List Int) (h : Blk b) : mx r (um r b) = b := by
  unfold um mx
  by_cases hr : r < 14
  · rw [if_pos hr, if_pos hr, mixb_mu b h]
  · rw [if_neg hr, if_neg hr]
/-- one round -/
def fw (key : List Int) (r : Nat) (b : List Int) : List Int := xorl (mx r (shl16 (looked ptab b) 1)) (rk key r)
def bw (key : List Int) (r : Nat) (b : List Int) : List Int := looked btab (shl16 (um r (xorl b (rk key r))) 3)
theorem bw_blk (key : List Int) (r : Nat) (b : List Int) : Blk (bw key r b) := looked_blk _ _ bAll (shl16_len _ _)
theorem fw_blk (key : List Int) (hk : key.length = 32) (ha : AllB key) (r : Nat) (b : List Int) (h : Blk b) : Blk (fw key r b) := xorl_blk _ _ (mx_blk r _ (shl16_blk _ _ (looked_blk _ _ pAll h.1))) (rk_blk key hk ha r)
theorem bw_fw (key : List Int) (hk : key.length = 32) (ha : AllB key) (r : Nat) (b : List Int) (h : Blk b) : bw key r (fw key r b) = b := by
  have h1 := looked_blk ptab b pAll h.1
  have h2 := shl16_blk _ 1 h1
  unfold bw fw
  rw [xorl_bb _ _ (mx_blk r _ h2) (rk_blk key hk ha r), um_mx r _ h2, shl_31 _ h1.1, looked_bp b h.2]
theorem fw_bw (key : List Int) (hk : key.length = 32) (ha : AllB key) (r : Nat) (b : List Int) (h : Blk b) : fw key r (bw key r b) = b := by
  have h1 := xorl_blk b _ h (rk_blk key hk ha r)
  have h2 := um_blk r _ h1
  have h3 := shl16_blk _ 3 h2
  unfold bw fw
  rw [looked_pb _ h3.2, shl_13 _ h2.1, mx_um r _ h1, xorl_bb _ _ h (rk_blk key hk ha r)]
/-- encrypting, behind r rounds -/
def enc (key b : List Int) : Nat → List Int
  | 0 => xorl b (rk key 0)
  | r + 1 => fw key (r + 1) (enc key b r)
/-- decrypting, behind k rounds -/
def dec (key b : List Int) : Nat → List Int
  | 0 => b
  | k + 1 => bw key (14 - k) (dec key b k)
def encr (key b : List Int) : List Int := enc key b 14
def decr (key b : List Int) : List Int := xorl (dec key b 14) (rk key 0)
theorem dec_blk (key b : List Int) (h : Blk b) (k : Nat) : Blk (dec key b k) := by
  cases k with
  | zero => exact h
  | succ k => exact bw_blk key _ _
theorem enc_blk (key : List Int) (hk : key.length = 32) (ha : AllB key) (b : List Int) (h : Blk b) (r : Nat) : Blk (enc key b r) := by
  induction r with
  | zero => exact xorl_blk _ _ h (rk_blk key hk ha 0)
  | succ r ih => exact fw_blk key hk ha _ _ ih
theorem encr_blk (key : List Int) (hk : key.length = 32) (ha : AllB key) (b : List Int) (h : Blk b) : Blk (encr key b) := enc_blk key hk ha b h 14
theorem decr_blk (key : List Int) (hk : key.length = 32) (ha : AllB key) (b : List Int) (h : Blk b) : Blk (decr key b) := xorl_blk _ _ (dec_blk key b h 14) (rk_blk key hk ha 0)
theorem dec_enc (key : List Int) (hk : key.length = 32) (ha : AllB key) (b : List Int) (h : Blk b) (k : Nat) (hk14 : k ≤ 14) : dec key (encr key b) k = enc key b (14 - k) := by
  induction k with
  | zero => rfl
  | succ k ih =>
    rw [dec, ih (by omega), show 14 - k = (14 - (k + 1)) + 1 by omega, enc, bw_fw key hk ha _ _ (enc_blk key hk ha b h _)]
theorem decr_encr (key : List Int) (hk : key.length = 32) (ha : AllB key) (b : List Int) (h : Blk b) : decr key (encr key b) = b := by
  unfold decr
  rw [dec_enc key hk ha b h 14 (by omega)]
  exact xorl_bb _ _ h (rk_blk key hk ha 0)
theorem enc_dec (key : List Int) (hk : key.length = 32) (ha : AllB key) (b : List Int) (h : Blk b) (r : Nat) (hr : r ≤ 14) : enc key (decr key b) r = dec key b (14 - r) := by
  induction r with
  | zero =>
    rw [enc, decr]
    exact xorl_bb _ _ (dec_blk key b h 14) (rk_blk key hk ha 0)
  | succ r ih =>
    have e := ih (by omega)
    rw [show 14 - r = (14 - (r + 1)) + 1 by omega, dec, show 14 - (14 - (r + 1)) = r + 1 by omega] at e
    rw [enc, e, fw_bw key hk ha _ _ (dec_blk key b h _)]
theorem encr_decr (key : List Int) (hk : key.length = 32) (ha : AllB key) (b : List Int) (h : Blk b) : encr key (decr key b) = b := enc_dec key hk ha b h 14 (by omega)
end Go.Proofs.Ytifepmdhbhdjpaa

/- Rows of slices that a call has made, words of four bytes in them; 'append' of bytes and of a slice. No claim of its own. -/
namespace Go.Proofs.Ytifepmdhbhdjpaa
open Go.RowKit
set_option maxRecDepth 20000

/-- 'append(out, s...)' of bytes, out of the call's own -/
theorem pushs_lawG {ops : Array Oper} {rest : List Oper} {o : Oper} {a : Act} {Q : Exit → Act → World → Prop} (w : World) (hg : o.guard = none) (s x : Operand) (hop : o.op = .call { callee := .builtin .append, args := #[s, x], argTypes := #[22, 22] })
    (B : Nat) (hB : B ≤ w.heap.size) (v vy : Value) (xs ys : List Int) (hs : a.eval s = v) (hx : a.eval x = vy) (hown : Own B w v xs) (hy : Byt w vy ys) (hn : xs.length ≤ 1099511627776) (hm : ys.length ≤ 1099511627776)
    (hK : ∀ v' w', Own B w' v' (xs ++ ys) → Below B w w' → wpList Try.prog ops Q rest (a.put o.dst v') w') :
    wpList Try.prog ops Q (o :: rest) a w := by
  obtain ⟨i0, hi, hz0, hz1, hz2⟩ := info_parts info_u8
  obtain ⟨ao, cap, rfl, h1, h2, h3, h4, h5⟩ := hy
  cases ao with
  | none =>
    have hc := h4 rfl
    subst hc
    have : ys = [] := List.eq_nil_of_length_eq_zero (by omega)
    subst this
    refine wpList_append_own_none hg s x 22 hop B 5 i0 1 Try.underlying22 hi v xs.length _ hs hown hx (hK v w ?_ (Below.refl _ _))
    rwa [List.append_nil]
  | some ad =>
    refine wpList_append_own _ hg s x 22 hop B 5 i0 (.int .u8 0) 1 1 Try.underlying22 hi hz0 hz1 hz2 rfl (by decide) v xs.length _ hs hown ad ys.length cap (ys.map (Value.int .u8)) hx (by simp) ?_ ?_ (by simp only [maxLen]; omega) (by omega) hB fun v' w' h1 h2 _ => ?_
    · intro j u hj
      have hjl : j < ys.length := by have := (List.getElem?_eq_some_iff.1 hj).1; simpa using this
      obtain ⟨b, off, e, hc⟩ := h5 (by omega)
      cases e
      rw [Addr.add_mid, hc j hjl, ← hj]
      simp [gb, List.getD, hjl]
    · intro u hu
      simp only [List.mem_map] at hu
      obtain ⟨y, _, rfl⟩ := hu
      rfl
    · refine hK v' w' ?_ ?_
      · show w'.ownsRow B 5 1 v' (xs ++ ys).length ((xs ++ ys).map (Value.int .u8))
        simpa using h1
      · exact (Below.refl B w).grown h2 hB fun k hk => (World.ownsRow.lt hown k hk).1

theorem info_bytes : (Try.prog.info? 22).map (fun i => (i.zero, i.size, i.bytes)) = some (some (.slice none 0 0), 1, 24) := by kernel_rfl
theorem und_bytess : Try.prog.underlying 68 = some (.slice (Try.prog.elem 68)) := by kernel_rfl
theorem elem_bytess : Try.prog.elem 68 = 22 := by kernel_rfl

/-- v owns the slices us, in a block from B on -/
def OwnS (B : Nat) (w : World) (v : Value) (us : List Value) : Prop := w.ownsRow B 22 1 v us.length us
theorem OwnS.empty (w : World) {B : Nat} (hB : B ≤ w.heap.size) : OwnS B (w.alloc (.cells #[] 22)) (.slice (some ⟨w.heap.size, 0, none⟩) 0 0) [] :=
  World.ownsRow_made w #[] 0 hB (by simp [maxLen]) (by simp)
theorem OwnS.at_ {B : Nat} {w : World} {v : Value} {us : List Value} (h : OwnS B w v us) (hp : 0 < us.length) :
    ∃ g cap cur, v = .slice (some ⟨g, 0, none⟩) us.length cap ∧ us.length ≤ cap ∧ cap ≤ 9223372036854775807 ∧ B ≤ g ∧ w.heap[g]? = some (.cells cur 22 (0, 0)) ∧ ∀ t u, us[t]? = some u → w.cell? ⟨g, t, none⟩ = some u := by
  rcases h.2 with ⟨rfl, hn⟩ | ⟨g, cap, cur, rfl, hg, hb, hc, hm, hs, ht⟩
  · omega
  · refine ⟨g, cap, cur, rfl, hc, by simpa [maxLen] using hm, hg, hb, fun t u hu => ?_⟩
    have := World.ownsRow.cells h (g := g) rfl t u hu
    rwa [Addr.add_lit, Nat.zero_add] at this
theorem OwnS.below {B : Nat} {w w' : World} {v : Value} {us : List Value} (h : OwnS B w v us) (hb : Below w.heap.size w w') : OwnS B w' v us :=
  World.ownsRow.kept (row := none) h ⟨hb.os, hb.tape, hb.output, hb.size, fun j hj _ => hb.block j hj⟩ (by cases hv : v.ownBlock <;> simp)

/-- u is a slice of the four bytes x, which lie below B or in a block of bytes -/
def Wrd4 (B : Nat) (w : World) (u : Value) (x : List Int) : Prop :=
  ∃ b off cap, u = .slice (some ⟨b, off, none⟩) 4 cap ∧ 4 ≤ cap ∧ cap ≤ 9223372036854775807 ∧ (b < B ∨ ∃ cur f, w.heap[b]? = some (.cells cur 5 f)) ∧ ∀ j, j < 4 → w.cell? ⟨b, off + j, none⟩ = some (.int .u8 (gb x j))
theorem Wrd4.byt {B : Nat} {w : World} {u : Value} {x : List Int} (h : Wrd4 B w u x) (hx : Wd x) : Byt w u x := by
  obtain ⟨b, off, cap, rfl, h1, h2, _, h4⟩ := h
  exact ⟨some ⟨b, off, none⟩, cap, by rw [hx.1], by rw [hx.1]; exact h1, h2, hx.2, (by intro h; cases h), fun _ => ⟨b, off, rfl, fun t ht => h4 t (by rw [hx.1] at ht; exact ht)⟩⟩
theorem Wrd4.below {B : Nat} {w w' : World} {u : Value} {x : List Int} (h : Wrd4 B w u x) (hb : Below w.heap.size w w') : Wrd4 B w' u x := by
  obtain ⟨b, off, cap, rfl, h1, h2, h3, h4⟩ := h
  have hlt : b < w.heap.size := World.block_lt_of_cell? w _ (h4 0 (by omega))
  refine ⟨b, off, cap, rfl, h1, h2, ?_, fun j hj => by rw [hb.cell hlt]; exact h4 j hj⟩
  rw [hb.block b hlt]; exact h3
/-- it lasts when a row of slices of the call's own grows -/
theorem Wrd4.grown {B : Nat} {w w' : World} {u v : Value} {x : List Int} {us : List Value} (h : Wrd4 B w u x) (ho : OwnS B w v us) (hg : w.grownBy w' v.ownBlock) : Wrd4 B w' u x := by
  obtain ⟨b, off, cap, rfl, h1, h2, h3, h4⟩ := h
  have hlt : b < w.heap.size := World.block_lt_of_cell? w _ (h4 0 (by omega))
  have hne : some b ≠ v.ownBlock := by
    rcases ho.2 with ⟨rfl, _⟩ | ⟨g, cap, cur, rfl, hgB, hb, _⟩
    · simp [Value.ownBlock]
    · intro e
      simp [Value.ownBlock] at e
      subst e
      rcases h3 with h3 | ⟨cur', f, h3⟩
      · omega
      · rw [hb] at h3
        injection h3 with h3
        injection h3 with _ h5
        exact absurd h5 (by decide)
  have e := hg.block b hlt hne
  refine ⟨b, off, cap, rfl, h1, h2, by rw [e]; exact h3, fun j hj => ?_⟩
  rw [World.cell?_of_block (w := w) (w' := w') (a := ⟨b, off + j, none⟩) e]; exact h4 j hj
theorem Own.wrd4 {B B' : Nat} {w : World} {v : Value} {x : List Int} (h : Own B' w v x) (hx : Wd x) : Wrd4 B w v x := by
  have hb := h.byt hx.2
  rcases h.2 with ⟨rfl, hn⟩ | ⟨g, cap, cur, rfl, hg, hbb, hc, hm, hs, ht⟩
  · rw [hx.1] at hn; omega
  · obtain ⟨ao, cap', e, h1, h2, h3, h4, h5⟩ := hb
    obtain ⟨b, off, rfl, hcell⟩ := h5 (by rw [hx.1]; omega)
    injection e with e1 e2 e3
    injection e1 with e1
    injection e1 with e4 e5
    subst e4 e3 e5
    refine ⟨g, 0, cap, by rw [hx.1], by rw [← hx.1]; exact h1, h2, Or.inr ⟨cur, (0, 0), hbb⟩, fun j hj => hcell j (by rw [hx.1]; exact hj)⟩

section
variable {ops : Array Oper} {rest : List Oper} {o : Oper} {a : Act} {Q : Exit → Act → World → Prop}
/-- 'append(w, u)' of a slice, w of the call's own -/
theorem push_lawS (w0 : World) (hg : o.guard = none) (s x : Operand) (hop : o.op = .call { callee := .builtin .append, args := #[s, x], argTypes := #[68, 68] })
    (B : Nat) (hB : B ≤ w0.heap.size) (v : Value) (us : List Value) (u : Value) (hu : u.oneCell' = true) (hs : a.eval s = v) (hx : a.eval x = .slice (some ⟨w0.heap.size, 0, none⟩) 1 1) (hown : OwnS B w0 v us) (hn : us.length ≤ 1000)
    (hK : ∀ v' w', OwnS B w' v' (us ++ [u]) → Below B w0 w' → (∀ u' y, Wrd4 B w0 u' y → Wrd4 B w' u' y) → wpList Try.prog ops Q rest (a.put o.dst v') w') :
    wpList Try.prog ops Q (o :: rest) a (w0.alloc (.cells #[u] 22)) := by
  obtain ⟨i0, hi, hz0, hz1, hz2⟩ := info_parts info_bytes
  have hown2 : OwnS B (w0.alloc (.cells #[u] 22)) v us := World.ownsRow.alloc hown _
  refine wpList_append_own _ hg s x 68 hop B 22 i0 (.slice none 0 0) 1 24 Try.underlying68 hi hz0 hz1 hz2 rfl (by decide) v us.length _ hs hown2 ⟨w0.heap.size, 0, none⟩ 1 1 [u] hx rfl ?_ ?_ (by simp only [maxLen]; omega) (by omega) (by simp; omega) fun v' w' h1 h2 _ => ?_
  · intro j y hj
    match j, hj with
    | 0, hj => simp at hj; subst hj; simp [Addr.add]
  · intro y hy; simp at hy; subst hy; exact hu
  · refine hK v' w' ?_ ?_ fun u' y h => (h.below ((Below.refl _ _).alloc (Nat.le_refl _) _)).grown hown2 h2
    · show w'.ownsRow B 22 1 v' (us ++ [u]).length (us ++ [u])
      simpa using h1
    · refine ((Below.refl B w0).alloc hB _).grown h2 (by simp; omega) fun k hk => ?_
      exact (World.ownsRow.lt hown k hk).1
end

section
variable {ops : Array Oper} {o : Oper} {a : Act} {Q : Exit → Act → World → Prop} {K : Act → World → Prop} {E : Prop}
/-- '[]byte{x0, x1, x2, x3}' in a region that draws its order -/
theorem step_build4 (w : World) (hg : o.guard = none) (d : Option Tmp) (hd : o.dst = d) (x0 x1 x2 x3 : Operand) (hop : o.op = Op.buildSlice 22 4 #[(0, x0), (1, x1), (2, x2), (3, x3)]) (c0 c1 c2 c3 : Int)
    (h0 : a.eval x0 = .int .u8 c0) (h1 : a.eval x1 = .int .u8 c1) (h2 : a.eval x2 = .int .u8 c2) (h3 : a.eval x3 = .int .u8 c3)
    (hK : ∀ w', Ar w' w.heap.size 0 .u8 [c0, c1, c2, c3] → Below w.heap.size w w' → w.heap.size < w'.heap.size → K (a.put d (.slice (some ⟨w.heap.size, 0, none⟩) 4 4)) w') : if Region.wanted o (yielded ops a.tmps) = true then Oper.wp Try.prog o a w K Q else E := by
  have hw : Region.wanted o (yielded ops a.tmps) = true := by simp [Region.wanted, hg]
  rw [if_pos hw]
  subst hd
  have hrun : (Instr.buildSlice 22 4 #[(0, .int .u8 c0), (1, .int .u8 c1), (2, .int .u8 c2), (3, .int .u8 c3)]).run Try.prog w = .ok (.slice (some ⟨w.heap.size, 0, none⟩) 4 4) (w.alloc (.cells (ints .u8 [c0, c1, c2, c3]) 5)) := by kernel_rfl
  unfold Oper.wp execOp
  simp only [hop, List.map_toArray, List.map_cons, List.map_nil, h0, h1, h2, h3, Sem.run_bind, Sem.run_pure, Result.andThen_ok, hrun]
  exact hK _ (Ar.new w _ _ _) ((Below.refl _ _).alloc (Nat.le_refl _) _) (by simp)
end
end Go.Proofs.Ytifepmdhbhdjpaa

/- Wrapping on lists of bytes: a step, its undoing, all steps, each undoes the other. No claim of its own. -/
namespace Go.Proofs.Ytifepmdhbhdjpaa.wr
open Go.RowKit
set_option maxRecDepth 20000

/-- a number as eight bytes, big endian -/
def b8 (t : Nat) : List Int := (le (t : Int) 8).reverse
theorem b8_len (t : Nat) : (b8 t).length = 8 := by simp [b8, le_len]
theorem b8_all (t : Nat) : AllB (b8 t) := allB_reverse (le_all _ _)
/-- the first eight bytes, the part at i, and both put anew -/
def hd (s : List Int) : List Int := s.take 8
def pt (s : List Int) (i : Nat) : List Int := (s.take (i + 8)).drop i
def put (s : List Int) (i : Nat) (a r : List Int) : List Int := a ++ (s.take i).drop 8 ++ r ++ s.drop (i + 8)

theorem allB_app {xs ys : List Int} (hx : AllB xs) (hy : AllB ys) : AllB (xs ++ ys) := allB_mem fun x h => by
  rcases List.mem_append.1 h with h | h
  · obtain ⟨i, _, rfl⟩ := mem_gb h; exact hx i
  · obtain ⟨i, _, rfl⟩ := mem_gb h; exact hy i
theorem allB_sub {xs ys : List Int} (hx : AllB xs) (h : ∀ y ∈ ys, y ∈ xs) : AllB ys := allB_mem fun y hy => by
  obtain ⟨i, _, rfl⟩ := mem_gb (h y hy); exact hx i
theorem allB_tk {xs : List Int} (hx : AllB xs) (k : Nat) : AllB (xs.take k) := allB_sub hx fun _ h => List.mem_of_mem_take h
theorem allB_dr {xs : List Int} (hx : AllB xs) (k : Nat) : AllB (xs.drop k) := allB_sub hx fun _ h => List.mem_of_mem_drop h

theorem hd_len (s : List Int) (h : 8 ≤ s.length) : (hd s).length = 8 := by simp [hd]; omega
theorem pt_len (s : List Int) (i : Nat) (h : i + 8 ≤ s.length) : (pt s i).length = 8 := by simp [pt]; omega
theorem hd_all (s : List Int) (h : AllB s) : AllB (hd s) := allB_tk h 8
theorem pt_all (s : List Int) (i : Nat) (h : AllB s) : AllB (pt s i) := allB_dr (allB_tk h _) _
theorem put_len (s : List Int) (i : Nat) (a r : List Int) (ha : a.length = 8) (hr : r.length = 8) (h8 : 8 ≤ i) (hi : i + 8 ≤ s.length) : (put s i a r).length = s.length := by
  simp [put, ha, hr]; omega
theorem put_all (s : List Int) (i : Nat) (a r : List Int) (hs : AllB s) (ha : AllB a) (hr : AllB r) : AllB (put s i a r) :=
  allB_app (allB_app (allB_app ha (allB_dr (allB_tk hs _) _)) hr) (allB_dr hs _)
theorem hd_put (s : List Int) (i : Nat) (a r : List Int) (ha : a.length = 8) : hd (put s i a r) = a := by
  unfold hd put
  rw [List.append_assoc, List.append_assoc, List.take_append_of_le_length (by omega), List.take_of_length_le (by omega)]
theorem mid_len (s : List Int) (i : Nat) (hi : i + 8 ≤ s.length) : ((s.take i).drop 8).length = i - 8 := by simp; omega
theorem front_len (s : List Int) (i : Nat) (a : List Int) (ha : a.length = 8) (h8 : 8 ≤ i) (hi : i + 8 ≤ s.length) : (a ++ (s.take i).drop 8).length = i := by
  rw [List.length_append, mid_len s i hi]; omega
theorem take_put (s : List Int) (i : Nat) (a r : List Int) (ha : a.length = 8) (h8 : 8 ≤ i) (hi : i + 8 ≤ s.length) : (put s i a r).take i = a ++ (s.take i).drop 8 := by
  have hl := front_len s i a ha h8 hi
  unfold put
  rw [List.append_assoc, List.take_append_of_le_length (by omega), List.take_of_length_le (by omega)]
theorem take_put8 (s : List Int) (i : Nat) (a r : List Int) (ha : a.length = 8) (hr : r.length = 8) (h8 : 8 ≤ i) (hi : i + 8 ≤ s.length) : (put s i a r).take (i + 8) = a ++ (s.take i).drop 8 ++ r := by
  have hl := front_len s i a ha h8 hi
  have hl2 : (a ++ (s.take i).drop 8 ++ r).length = i + 8 := by rw [List.length_append, hl, hr]
  unfold put
  rw [List.take_append_of_le_length (by omega), List.take_of_length_le (by omega)]
theorem drop_put8 (s : List Int) (i : Nat) (a r : List Int) (ha : a.length = 8) (hr : r.length = 8) (h8 : 8 ≤ i) (hi : i + 8 ≤ s.length) : (put s i a r).drop (i + 8) = s.drop (i + 8) := by
  have hl := front_len s i a ha h8 hi
  have hl2 : (a ++ (s.take i).drop 8 ++ r).length = i + 8 := by rw [List.length_append, hl, hr]
  unfold put
  rw [List.drop_append_of_le_length (by omega), List.drop_eq_nil_of_le (by omega), List.nil_append]
theorem pt_put (s : List Int) (i : Nat) (a r : List Int) (ha : a.length = 8) (hr : r.length = 8) (h8 : 8 ≤ i) (hi : i + 8 ≤ s.length) : pt (put s i a r) i = r := by
  have hl := front_len s i a ha h8 hi
  unfold pt
  rw [take_put8 s i a r ha hr h8 hi, List.drop_append_of_le_length (by omega), List.drop_eq_nil_of_le (by omega), List.nil_append]
theorem put_put (s : List Int) (i : Nat) (a r a' r' : List Int) (ha : a.length = 8) (hr : r.length = 8) (h8 : 8 ≤ i) (hi : i + 8 ≤ s.length) : put (put s i a r) i a' r' = put s i a' r' := by
  have e : ((put s i a r).take i).drop 8 = (s.take i).drop 8 := by
    rw [take_put s i a r ha h8 hi, List.drop_append_of_le_length (by omega), List.drop_eq_nil_of_le (by omega), List.nil_append]
  show a' ++ ((put s i a r).take i).drop 8 ++ r' ++ (put s i a r).drop (i + 8) = _
  rw [e, drop_put8 s i a r ha hr h8 hi]
  rfl
theorem put_same (s : List Int) (i : Nat) (h8 : 8 ≤ i) : put s i (hd s) (pt s i) = s := by
  have e1 : hd s ++ (s.take i).drop 8 = s.take i := by
    have h := List.take_append_drop 8 (s.take i)
    rwa [List.take_take, show min 8 i = 8 by omega] at h
  have e2 : s.take i ++ pt s i = s.take (i + 8) := by
    have h := List.take_append_drop i (s.take (i + 8))
    rwa [List.take_take, show min i (i + 8) = i by omega] at h
  unfold put
  rw [e1, e2, List.take_append_drop]

/-- one step, and its undoing -/
def fw (key : List Int) (t i : Nat) (s : List Int) : List Int :=
  put s i (xorl ((encr key (hd s ++ pt s i)).take 8) (b8 t)) ((encr key (hd s ++ pt s i)).drop 8)
def bk (key : List Int) (t i : Nat) (s : List Int) : List Int :=
  put s i ((decr key (xorl (hd s) (b8 t) ++ pt s i)).take 8) ((decr key (xorl (hd s) (b8 t) ++ pt s i)).drop 8)
theorem two_blk (a r : List Int) (ha : a.length = 8) (hr : r.length = 8) (ba : AllB a) (br : AllB r) : Blk (a ++ r) := ⟨by rw [List.length_append]; omega, allB_app ba br⟩
theorem half (x : List Int) (h : Blk x) : ((x.take 8).length = 8 ∧ AllB (x.take 8)) ∧ (x.drop 8).length = 8 ∧ AllB (x.drop 8) :=
  ⟨⟨by have := h.1; simp; omega, allB_tk h.2 8⟩, by have := h.1; simp; omega, allB_dr h.2 8⟩
theorem xb (a : List Int) (t : Nat) (ha : a.length = 8) (ba : AllB a) : (xorl a (b8 t)).length = 8 ∧ AllB (xorl a (b8 t)) :=
  ⟨by rw [xorl_len _ _ (by rw [ha, b8_len]), ha], xorl_all _ _ (by rw [ha, b8_len]) ba (b8_all t)⟩
theorem take_two (a r : List Int) (ha : a.length = 8) : (a ++ r).take 8 = a ∧ (a ++ r).drop 8 = r :=
  ⟨by rw [List.take_append_of_le_length (by omega), List.take_of_length_le (by omega)], by rw [List.drop_append_of_le_length (by omega), List.drop_eq_nil_of_le (by omega), List.nil_append]⟩

/-- what a step keeps -/
def Fit (L : Nat) (s : List Int) : Prop := s.length = L ∧ AllB s
theorem in_blk (s : List Int) (L i : Nat) (hs : Fit L s) (h8 : 8 ≤ i) (hi : i + 8 ≤ L) : Blk (hd s ++ pt s i) :=
  two_blk _ _ (hd_len s (by have := hs.1; omega)) (pt_len s i (by have := hs.1; omega)) (hd_all s hs.2) (pt_all s i hs.2)
theorem out_blk (s : List Int) (L t i : Nat) (hs : Fit L s) (h8 : 8 ≤ i) (hi : i + 8 ≤ L) : Blk (xorl (hd s) (b8 t) ++ pt s i) := by
  have := xb (hd s) t (hd_len s (by have := hs.1; omega)) (hd_all s hs.2)
  exact two_blk _ _ this.1 (pt_len s i (by have := hs.1; omega)) this.2 (pt_all s i hs.2)
theorem fw_fit (key : List Int) (hk : key.length = 32) (hka : AllB key) (s : List Int) (L t i : Nat) (hs : Fit L s) (h8 : 8 ≤ i) (hi : i + 8 ≤ L) : Fit L (fw key t i s) := by
  have hx := half _ (encr_blk key hk hka _ (in_blk s L i hs h8 hi))
  have hy := xb _ t hx.1.1 hx.1.2
  exact ⟨(put_len s i _ _ hy.1 hx.2.1 h8 (by have := hs.1; omega)).trans hs.1, put_all s i _ _ hs.2 hy.2 hx.2.2⟩
theorem bk_fit (key : List Int) (hk : key.length = 32) (hka : AllB key) (s : List Int) (L t i : Nat) (hs : Fit L s) (h8 : 8 ≤ i) (hi : i + 8 ≤ L) : Fit L (bk key t i s) := by
  have hx := half _ (decr_blk key hk hka _ (out_blk s L t i hs h8 hi))
  exact ⟨(put_len s i _ _ hx.1.1 hx.2.1 h8 (by have := hs.1; omega)).trans hs.1, put_all s i _ _ hs.2 hx.1.2 hx.2.2⟩
theorem bk_fw (key : List Int) (hk : key.length = 32) (hka : AllB key) (s : List Int) (L t i : Nat) (hs : Fit L s) (h8 : 8 ≤ i) (hi : i + 8 ≤ L) : bk key t i (fw key t i s) = s := by
  have hb := in_blk s L i hs h8 hi
  have hl : i + 8 ≤ s.length := by have := hs.1; omega
  have hx := half _ (encr_blk key hk hka _ hb)
  have hy := xb _ t hx.1.1 hx.1.2
  unfold bk
  have e1 : hd (fw key t i s) = xorl ((encr key (hd s ++ pt s i)).take 8) (b8 t) := hd_put s i _ _ hy.1
  have e2 : pt (fw key t i s) i = (encr key (hd s ++ pt s i)).drop 8 := pt_put s i _ _ hy.1 hx.2.1 h8 hl
  rw [e1, e2, xorl_back _ _ (by rw [hx.1.1, b8_len]) hx.1.2, List.take_append_drop, decr_encr key hk hka _ hb]
  have tt := take_two (hd s) (pt s i) (hd_len s (by omega))
  rw [tt.1, tt.2]
  unfold fw
  rw [put_put s i _ _ _ _ hy.1 hx.2.1 h8 hl, put_same s i h8]
theorem fw_bk (key : List Int) (hk : key.length = 32) (hka : AllB key) (s : List Int) (L t i : Nat) (hs : Fit L s) (h8 : 8 ≤ i) (hi : i + 8 ≤ L) : fw key t i (bk key t i s) = s := by
  have hb := out_blk s L t i hs h8 hi
  have hl : i + 8 ≤ s.length := by have := hs.1; omega
  have hx := half _ (decr_blk key hk hka _ hb)
  have hh := hd_len s (by omega)
  have hy := xb (hd s) t hh (hd_all s hs.2)
  unfold fw
  have e1 : hd (bk key t i s) = (decr key (xorl (hd s) (b8 t) ++ pt s i)).take 8 := hd_put s i _ _ hx.1.1
  have e2 : pt (bk key t i s) i = (decr key (xorl (hd s) (b8 t) ++ pt s i)).drop 8 := pt_put s i _ _ hx.1.1 hx.2.1 h8 hl
  rw [e1, e2, List.take_append_drop, encr_decr key hk hka _ hb]
  have tt := take_two (xorl (hd s) (b8 t)) (pt s i) hy.1
  rw [tt.1, tt.2, xorl_back _ _ (by rw [hh, b8_len]) (hd_all s hs.2)]
  unfold bk
  rw [put_put s i _ _ _ _ hx.1.1 hx.2.1 h8 hl, put_same s i h8]

/-- which part the step t (from 1 on) is about, of n -/
def ix (n t : Nat) : Nat := 8 * ((t - 1) % n + 1)
theorem ix_bd (n t : Nat) (hn : 0 < n) : 8 ≤ ix n t ∧ ix n t + 8 ≤ 8 * n + 8 := by
  have := Nat.mod_lt (t - 1) hn
  unfold ix
  omega
/-- t steps of n parts; k steps undone, from T on down -/
def ws (key : List Int) (n : Nat) (s : List Int) : Nat → List Int
  | 0 => s
  | t + 1 => fw key (t + 1) (ix n (t + 1)) (ws key n s t)
def us (key : List Int) (n : Nat) (s : List Int) (T : Nat) : Nat → List Int
  | 0 => s
  | k + 1 => bk key (T - k) (ix n (T - k)) (us key n s T k)
theorem ws_fit (key : List Int) (hk : key.length = 32) (hka : AllB key) (n : Nat) (hn : 0 < n) (s : List Int) (hs : Fit (8 * n + 8) s) (t : Nat) : Fit (8 * n + 8) (ws key n s t) := by
  induction t with
  | zero => exact hs
  | succ t ih => exact fw_fit key hk hka _ _ _ _ ih (ix_bd n _ hn).1 (ix_bd n _ hn).2
theorem us_fit (key : List Int) (hk : key.length = 32) (hka : AllB key) (n : Nat) (hn : 0 < n) (s : List Int) (hs : Fit (8 * n + 8) s) (T k : Nat) : Fit (8 * n + 8) (us key n s T k) := by
  induction k with
  | zero => exact hs
  | succ k ih => exact bk_fit key hk hka _ _ _ _ ih (ix_bd n _ hn).1 (ix_bd n _ hn).2
theorem us_ws (key : List Int) (hk : key.length = 32) (hka : AllB key) (n : Nat) (hn : 0 < n) (s : List Int) (hs : Fit (8 * n + 8) s) (T : Nat) : ∀ k, k ≤ T → us key n (ws key n s T) T k = ws key n s (T - k)
  | 0, _ => rfl
  | k + 1, h => by
    rw [us, us_ws key hk hka n hn s hs T k (by omega)]
    obtain ⟨t, ht⟩ : ∃ t, T - k = t + 1 := ⟨T - k - 1, by omega⟩
    rw [show T - (k + 1) = t by omega, ht, ws]
    exact bk_fw key hk hka _ _ _ _ (ws_fit key hk hka n hn s hs t) (ix_bd n _ hn).1 (ix_bd n _ hn).2
theorem ws_us (key : List Int) (hk : key.length = 32) (hka : AllB key) (n : Nat) (hn : 0 < n) (s : List Int) (hs : Fit (8 * n + 8) s) (T : Nat) : ∀ t, t ≤ T → ws key n (us key n s T T) t = us key n s T (T - t)
  | 0, _ => rfl
  | t + 1, h => by
    rw [ws, ws_us key hk hka n hn s hs T t (by omega)]
    obtain ⟨k, hk'⟩ : ∃ k, T - t = k + 1 := ⟨T - t - 1, by omega⟩
    rw [show T - (t + 1) = k by omega, hk', us, show T - k = t + 1 by omega]
    exact fw_bk key hk hka _ _ _ _ (us_fit key hk hka n hn s hs T k) (ix_bd n _ hn).1 (ix_bd n _ hn).2

/-- eight bytes 0xa6 -/
def a6 : List Int := List.replicate 8 166
theorem a6_len : a6.length = 8 := rfl
theorem a6_all : AllB a6 := allB_mem (by decide)
/-- what is wrapped; what is unwrapped, the first eight bytes with it -/
def wrapped (key b : List Int) (n : Nat) : List Int := ws key n (a6 ++ b) (6 * n)
def unwr (key c : List Int) (n : Nat) : List Int := us key n c (6 * n) (6 * n)
theorem a6_fit (b : List Int) (n : Nat) (hb : b.length = 8 * n) (ha : AllB b) : Fit (8 * n + 8) (a6 ++ b) := ⟨by rw [List.length_append, a6_len, hb]; omega, allB_app a6_all ha⟩
theorem wrapped_fit (key : List Int) (hk : key.length = 32) (hka : AllB key) (b : List Int) (n : Nat) (hn : 0 < n) (hb : b.length = 8 * n) (ha : AllB b) : Fit (8 * n + 8) (wrapped key b n) := ws_fit key hk hka n hn _ (a6_fit b n hb ha) _
theorem unwr_fit (key : List Int) (hk : key.length = 32) (hka : AllB key) (c : List Int) (n : Nat) (hn : 0 < n) (hc : Fit (8 * n + 8) c) : Fit (8 * n + 8) (unwr key c n) := us_fit key hk hka n hn c hc _ _
theorem unwr_wrapped (key : List Int) (hk : key.length = 32) (hka : AllB key) (b : List Int) (n : Nat) (hn : 0 < n) (hb : b.length = 8 * n) (ha : AllB b) : unwr key (wrapped key b n) n = a6 ++ b := by
  have := us_ws key hk hka n hn _ (a6_fit b n hb ha) (6 * n) (6 * n) (Nat.le_refl _)
  rwa [Nat.sub_self] at this
theorem wrapped_unwr (key : List Int) (hk : key.length = 32) (hka : AllB key) (c : List Int) (n : Nat) (hn : 0 < n) (hc : Fit (8 * n + 8) c) (h : hd (unwr key c n) = a6) : wrapped key ((unwr key c n).drop 8) n = c := by
  have e : a6 ++ (unwr key c n).drop 8 = unwr key c n := by rw [← h]; exact List.take_append_drop 8 _
  unfold wrapped
  rw [e]
  have := ws_us key hk hka n hn c hc (6 * n) (6 * n) (Nat.le_refl _)
  rwa [Nat.sub_self] at this
end Go.Proofs.Ytifepmdhbhdjpaa.wr

/- Rows that a call hands back as its own; appending to a full slice, and noughts to none; copying into a part of a row, all else staying. No claim of its own. -/
namespace Go.Proofs.Ytifepmdhbhdjpaa.wr
open Go.RowKit
set_option maxRecDepth 20000

theorem ownN_own {B : Nat} {w : World} {g n : Nat} {xs : List Int} (h : OwnN B w g n xs) (hl : xs.length = n) : Own B w (.slice (some ⟨g, 0, none⟩) n n) xs := by
  show w.ownsRow B 5 1 _ xs.length _
  rw [hl]; exact h.2.2

set_option maxHeartbeats 2000000 in
theorem xor_own (va vb : Value) (xs ys : List Int) (w : World) (ha : Byt w va xs) (hb : Byt w vb ys) (hl : xs.length = ys.length) (hmax : xs.length ≤ 1048576) :
    Calls Try.prog 77 #[va, vb] w fun e w' => ∃ v, e = .returned (.tuple #[v, .int .i64 0]) ∧ Own w.heap.size w' v (xorl xs ys) ∧ Below w.heap.size w w' := by
  obtain ⟨ao, ca, rfl, ha1, ha2, ha3, -, ha5⟩ := ha
  obtain ⟨bo, cb, rfl, hb1, hb2, hb3, -, hb5⟩ := hb
  have HL : Hid (xs.length = ys.length) := hl
  have HA5 : Hid (0 < xs.length → ∃ b off, ao = some ⟨b, off, none⟩ ∧ ∀ t, t < xs.length → w.cell? ⟨b, off + t, none⟩ = some (.int .u8 (gb xs t))) := ha5
  have HB5 : Hid (0 < xs.length → ∃ b off, bo = some ⟨b, off, none⟩ ∧ ∀ t, t < xs.length → w.cell? ⟨b, off + t, none⟩ = some (.int .u8 (gb ys t))) := by
    rw [hl]; exact hb5
  have HA : Hid (AllB xs) := ha3
  have HB : Hid (AllB ys) := hb3
  rw [← hl] at hb1 ⊢
  clear hb5 ha5 ha3 hb3 hl
  have hz := xorl_len xs ys HL.out
  have HZ : Hid ((xorl xs ys).length = xs.length) := hz
  clear hz
  go_enter Try.func77, Try.ntmps77
  go_wp2_with (at_make; refine make_law _ rfl (.tmp 14) (.tmp 14) rfl w.heap.size (Nat.le_refl _) _ xs.length rfl rfl rfl (by omega) ?_; intro w1 hown hbel hlt)
  go_loopw [18] (fun i wr => ∃ k : Nat, k ≤ xs.length ∧ i = .int .i64 k ∧ OwnN w.heap.size wr w.heap.size xs.length (part (xorl xs ys) k) ∧ Below w.heap.size w wr) (fun i _ => xs.length - (intOf i).toNat)
  case atStart => exact ⟨0, Nat.zero_le _, rfl, by rw [part_zero, HZ.out]; exact hown, hbel⟩
  case round =>
    clear hown hbel
    obtain ⟨k, hk, rfl, hown, hbel⟩ := hrel
    by_cases hlt' : k < xs.length
    · obtain ⟨b, off, rfl, hca⟩ := HA5.out (by omega)
      obtain ⟨b', off', rfl, hcb⟩ := HB5.out (by omega)
      have n1 := World.block_lt_of_cell? w _ (hca k hlt')
      have n2 := World.block_lt_of_cell? w _ (hcb k hlt')
      have c1 : wr.cell? ⟨b, off + k, none⟩ = some (.int .u8 (gb xs k)) := (hbel.cell n1).trans (hca k hlt')
      have c2 : wr.cell? ⟨b', off' + k, none⟩ = some (.int .u8 (gb ys k)) := (hbel.cell n2).trans (hcb k hlt')
      have lk : (k : Int) < (xs.length : Int) := by omega
      have lk0 : (0 : Int) ≤ (k : Int) := by omega
      have c3 := hown.cell hlt'
      have c4 := hown.free k
      have hx : bits .xor .u8 (gb xs k) (gb ys k) = xr (gb xs k) (gb ys k) := xr_of _ _ (HA.out k) (HB.out k)
      have hown' : OwnN w.heap.size (wr.setCell ⟨w.heap.size, k, none⟩ (.int .u8 (xr (gb xs k) (gb ys k)))) w.heap.size xs.length (part (xorl xs ys) (k + 1)) := by
        have h := hown.set k (gb (xorl xs ys) k)
        rw [part_set _ k (by rw [HZ.out]; exact hlt'), xorl_gb xs ys HL.out k hlt'] at h
        exact h
      clear hca hcb
      go_wp2
      go_region
      all_goals go_wp2
      all_goals
        go_roundw
        case rel => exact ⟨k + 1, by omega, by go_num, hown'.drew 1, (hbel.setCell (Nat.le_refl _) _).drew⟩
        case measure => simp [intOf]; omega
    · have hks : k = xs.length := by omega
      subst hks
      have hown2 : OwnN w.heap.size wr w.heap.size xs.length (xorl xs ys) := by
        have := hown; rw [← HZ.out, part_end, HZ.out] at this; exact this
      go_wp2
      go_ret2
      exact ⟨_, rfl, ownN_own hown2 HZ.out, hbel⟩

set_option maxHeartbeats 1000000 in
theorem rfill_own (x n : Int) (w : World) :
    Calls Try.prog 26 #[.int .u8 x, .int .i64 n] w fun e w' => ∃ v, e = .returned v ∧ Own w.heap.size w' v (List.replicate (clamp n 65536) x) ∧ Below w.heap.size w w' := by
  have hs : ((clamp n 65536 : Nat) : Int) = min (max n 0) 65536 := by unfold clamp; omega
  generalize hsd : clamp n 65536 = s at hs
  have HS : Hid ((s : Int) = min (max n 0) 65536) := hs
  have hs1 : s ≤ 65536 := by omega
  clear hsd hs
  go_enter Try.func26, Try.ntmps26
  go_wp2
  go_loopw [5, 6] (fun v i wr => ∃ k : Nat, k ≤ s ∧ i = .int .i64 k ∧ Own w.heap.size wr v (List.replicate k x) ∧ Below w.heap.size w wr) (fun _ i _ => s - (intOf i).toNat)
  case atStart => exact ⟨0, Nat.zero_le _, rfl, Own.empty w (Nat.le_refl _), (Below.refl _ _).alloc (Nat.le_refl _) _⟩
  case round =>
    obtain ⟨k, hk, rfl, hown, hbel⟩ := hrel
    have hsz := hbel.size
    by_cases hlt : k < s
    · have h1 : (k : Int) < n := by have := HS.out; omega
      have h2 : (k : Int) < 65536 := by omega
      go_wp2_with (at_builtin; refine push_law wr rfl (.tmp 17) (.tmp 19) rfl w.heap.size (by omega) _ _ x rfl rfl hown (by simp; omega) ?_; intro v' w1 hown' hbel')
      rw [← List.replicate_succ'] at hown'
      go_roundw
      case rel => exact ⟨k + 1, by omega, by go_num, hown', hbel.trans hbel'⟩
      case measure => simp [intOf]; omega
    · have hks : k = s := by omega
      subst hks
      by_cases h1 : (k : Int) < n
      · have h2 : ¬ (k : Int) < 65536 := by have := HS.out; omega
        go_wp2
        go_ret
        exact ⟨_, rfl, hown, hbel⟩
      · go_wp2
        go_ret
        exact ⟨_, rfl, hown, hbel⟩

theorem Own.below {B : Nat} {w w' : World} {v : Value} {xs : List Int} (h : Own B w v xs) (hb : Below w.heap.size w w') : Own B w' v xs :=
  World.ownsRow.kept (row := none) h ⟨hb.os, hb.tape, hb.output, hb.size, fun j hj _ => hb.block j hj⟩ (by cases hv : v.ownBlock <;> simp)
theorem Own.ar {B : Nat} {w : World} {v : Value} {xs : List Int} (h : Own B w v xs) (hp : 0 < xs.length) : ∃ g cap, v = .slice (some ⟨g, 0, none⟩) xs.length cap ∧ B ≤ g ∧ xs.length ≤ cap ∧ cap ≤ 9223372036854775807 ∧ Ar w g 0 .u8 xs := by
  have hh := h
  rcases h.2 with ⟨rfl, hn⟩ | ⟨g, cap, cur, rfl, hg, hb, hc, hm, hs, ht⟩
  · omega
  · refine ⟨g, cap, rfl, hg, hc, by simpa [maxLen] using hm, Ar.mk fun i hi => ?_⟩
    have hcell := World.ownsRow.cells hh (g := g) rfl i (.int .u8 (gb xs i)) (by simp [gb, List.getD, hi])
    rw [Addr.add_lit] at hcell
    refine ⟨by simpa using hcell, ?_⟩
    have := World.ownsRow.frozenAt hh i
    rw [Nat.zero_add]
    exact this
theorem byt_drawn {w : World} {v : Value} {xs : List Int} (h : Byt w v xs) (m : Nat) : Byt (w.drewN m) v xs := h
theorem below_drawn {B : Nat} {w w' : World} (h : Below B w w') (m : Nat) : Below B w (w'.drewN m) := by
  induction m with
  | zero => exact h
  | succ m ih => exact ih.drew
theorem own_mono {B C : Nat} {w : World} {v : Value} {xs : List Int} (h : Own B w v xs) (hc : C ≤ B) : Own C w v xs := by
  refine ⟨h.1, ?_⟩
  rcases h.2 with hn | ⟨g, cap, cur, hv, hg, hr⟩
  · exact .inl hn
  · exact .inr ⟨g, cap, cur, hv, by omega, hr⟩
/-- all but one block stays -/
theorem byt_but {w w' : World} {v : Value} {xs : List Int} {g : Nat} (h : Byt w v xs) (hg : w.grownBy w' (some g)) (hf : v.ownBlock ≠ some g) : Byt w' v xs := by
  obtain ⟨ao, cap, rfl, h1, h2, h3, h4, h5⟩ := h
  refine ⟨ao, cap, rfl, h1, h2, h3, h4, fun hp => ?_⟩
  obtain ⟨b, off, rfl, hc⟩ := h5 hp
  refine ⟨b, off, rfl, fun t ht => ?_⟩
  have := hc t ht
  rw [World.cell?_of_block (w := w) (w' := w') (a := ⟨b, off + t, none⟩) (hg.block b (World.block_lt_of_cell? w _ this) hf)]
  exact this
theorem below_but {w w' : World} {g : Nat} (hg : w.grownBy w' (some g)) (hl : g ≤ w.heap.size) : Below g w w' :=
  (Below.refl g w).grown hg hl fun k hk => by cases hk; exact Nat.le_refl _
theorem but_cells (w : World) (b o : Nat) (vs : List Value) : w.grownBy (w.setCells b o vs) (some b) := by
  have h : Below 0 w (w.setCells b o vs) := below_cells b (Nat.zero_le _) vs o (Below.refl _ _)
  refine ⟨h.os, h.tape, h.output, h.size, fun k hk hne => ?_⟩
  have hne' : k ≠ b := fun e => hne (by rw [e])
  clear h
  induction vs generalizing w o with
  | nil => rfl
  | cons v r ih =>
    show ((w.setCell ⟨b, o, none⟩ v).setCells b (o + 1) r).heap[k]? = _
    rw [ih _ (o + 1) (by simpa using hk)]
    exact Below.heap_setCell w ⟨b, o, none⟩ v k hne'

section
variable {ops : Array Oper} {rest : List Oper} {o : Oper} {a : Act} {Q : Exit → Act → World → Prop}
/-- 'copy(d, s)' of as many bytes as d has room for; all but d's block stays -/
theorem copy_lawW (w : World) (hg : o.guard = none) (x y : Operand) (hop : o.op = .call { callee := .builtin .copy, args := #[x, y], argTypes := #[22, 22] })
    (b p n dc : Nat) (v : Value) (xs ys : List Int) (hx : a.eval x = .slice (some ⟨b, p, none⟩) n dc) (hy : a.eval y = v) (hb : Byt w v ys) (hA : Ar w b 0 .u8 xs) (hn : ys.length = n) (hl : p + n ≤ xs.length)
    (hK : ∀ w', Ar w' b 0 .u8 (laid xs p ys) → w.grownBy w' (some b) → wpList Try.prog ops Q rest (a.put o.dst (.int .i64 (n : Int))) w') :
    wpList Try.prog ops Q (o :: rest) a w := by
  refine wpList_plain hg fun K hK' => ?_
  obtain ⟨ao, cap, rfl, h1, h2, h3, h4, h5⟩ := hb
  have e : min ys.length n = n := by omega
  have hrun := run_copyG w b p n dc ao ys cap o.type h5 (by rw [e]; exact thereG hA p n hl)
  rw [e, List.take_of_length_le (by omega)] at hrun
  unfold Oper.wp execOp
  simp only [hop, resolve, invoke, builtin, Sem.run_bind, Sem.run_pure, Result.andThen_ok, List.map_toArray, List.map_cons, List.map_nil, hx, hy, hrun]
  exact hK' _ _ (hK _ (hA.layG p ys (by omega)) (but_cells _ _ _ _))
/-- 'append(s, x...)' of bytes, s without room: a new row -/
theorem full_law (w : World) (hg : o.guard = none) (s x : Operand) (hop : o.op = .call { callee := .builtin .append, args := #[s, x], argTypes := #[22, 22] })
    (vy : Value) (xs ys : List Int) (ad : Addr) (n : Nat) (hs : a.eval s = .slice (some ad) n n) (hx : a.eval x = vy) (hv : Byt w (.slice (some ad) n n) xs) (hy : Byt w vy ys) (hp : 0 < ys.length) (hq : 0 < xs.length) (hn : xs.length ≤ 1000000) (hm : ys.length ≤ 1000000)
    (hK : ∀ v' w', Own w.heap.size w' v' (xs ++ ys) → Below w.heap.size w w' → wpList Try.prog ops Q rest (a.put o.dst v') w') :
    wpList Try.prog ops Q (o :: rest) a w := by
  obtain ⟨i0, hi, hz0, hz1, hz2⟩ := info_parts info_u8
  obtain ⟨ao, cap, e, h1, h2, h3, h4, h5⟩ := hv
  cases e
  obtain ⟨b, off, e, hc⟩ := h5 hq
  cases e
  obtain ⟨ay, cay, rfl, y1, y2, y3, y4, y5⟩ := hy
  obtain ⟨by', offy, rfl, hcy⟩ := y5 hp
  refine wpList_append_grows w hg s x 22 hop 5 i0 (.int .u8 0) 1 1 Try.underlying22 hi hz0 hz1 hz2 rfl (by decide) (some ⟨b, off, none⟩) xs.length xs.length (xs.map (Value.int .u8)) hs (by intro h; cases h) (by simp) ?_ ⟨by', offy, none⟩ ys.length cay (ys.map (Value.int .u8)) hx (by simp) ?_ ?_ (by omega) (by simp only [maxLen]; omega) (by omega) fun v' w' r1 r2 => ?_
  · intro b' hb' j u hj
    cases hb'
    have hjl : j < xs.length := by have := (List.getElem?_eq_some_iff.1 hj).1; simpa using this
    rw [Addr.add_mid, hc j hjl, ← hj]
    simp [gb, List.getD, hjl]
  · intro j u hj
    have hjl : j < ys.length := by have := (List.getElem?_eq_some_iff.1 hj).1; simpa using this
    rw [Addr.add_mid, hcy j hjl, ← hj]
    simp [gb, List.getD, hjl]
  · intro u hu
    simp only [List.mem_map] at hu
    obtain ⟨y, _, rfl⟩ := hu
    rfl
  · refine hK v' w' ?_ ((Below.refl _ w).grown r2 (Nat.le_refl _) fun k hk => by cases hk)
    show w'.ownsRow w.heap.size 5 1 v' (xs ++ ys).length ((xs ++ ys).map (Value.int .u8))
    simpa using r1
/-- 'append(nil, make([]byte, n)...)': room for n bytes -/
theorem zeros_law (w : World) (hg : o.guard = none) (s x : Operand) (hop : o.op = .call { callee := .builtin .append, args := #[s, x], argTypes := #[22, 3] })
    (L : Int) (n : Nat) (hs : a.eval s = .slice none 0 0) (hx : a.eval x = .int .i64 L) (hL : L = (n : Int)) (hp : 0 < n) (hn : n ≤ 1000000)
    (hK : ∀ cap w', n ≤ cap → cap ≤ 9223372036854775807 → Own w.heap.size w' (.slice (some ⟨w.heap.size, 0, none⟩) 0 cap) [] → Below w.heap.size w w' → wpList Try.prog ops Q rest (a.put o.dst (.slice (some ⟨w.heap.size, 0, none⟩) n cap)) w') :
    wpList Try.prog ops Q (o :: rest) a w := by
  refine wpList_plain hg fun K hK' => ?_
  obtain ⟨i0, hi, hz0, hz1, hz2⟩ := info_parts info_u8
  subst hL
  have hrun := Lib.run_append_nil_zeros (P := Try.prog) w 22 3 o.type 5 i0 (.int .u8 0) .i64 .i64 Try.underlying22 Try.underlying3 hi hz0 n hp (by rw [hz1]; decide) (by omega) (by rw [hz2]; omega)
  have hge := grownCap_ge w n 0 5
  have hcm : grownCap w n 0 5 ≤ maxLen := grownCap_le_maxLen w n 0 5 (by simp only [maxLen]; omega)
  unfold Oper.wp
  simp [execOp, hop, resolve, invoke, builtin, hs, hx, hrun, Result.andThen]
  refine hK' _ _ (hK _ _ hge (by simpa [maxLen] using hcm) ⟨by simp, .inr ⟨w.heap.size, _, _, rfl, Nat.le_refl _, heap_alloc_new w.drew _, Nat.zero_le _, hcm, ?_, by simp⟩⟩ ((Below.refl _ _).drew.alloc (Nat.le_refl _) _))
  have hz : (Value.int .u8 0).cells.size = 1 := rfl
  simp only [Array.size_append, size_zeroCells, hz]
  omega
end

section
variable {ops : Array Oper} {o : Oper} {a : Act} {Q : Exit → Act → World → Prop} {K : Act → World → Prop} {E : Prop}
/-- a call, guarded or not -/
theorem step_callW (w : World) (hw : Region.wanted o (yielded ops a.tmps) = true) (d : Option Tmp) (hd : o.dst = d) (f : FuncId) (args : Array Operand) (ats : Array TypeId) (hop : o.op = .call { callee := .value (.func f), args := args, argTypes := ats })
    (hcf : ∀ (q : Array Value) (w : World), (callFunc f q).run Try.prog w = .ok (.enter f q) w) (vs : Array Value) (hx : args.map a.eval = vs) (R : Value → World → Prop) (hc : Calls Try.prog f vs w fun e w' => ∃ v, e = .returned v ∧ R v w') (hK : ∀ v w', R v w' → K (a.put d v) w') : if Region.wanted o (yielded ops a.tmps) = true then Oper.wp Try.prog o a w K Q else E := by
  rw [if_pos hw]
  subst hd
  subst hx
  unfold Oper.wp
  simp only [execOp, hop]
  go_simp
  refine hc.mono ?_
  rintro e w' ⟨v, rfl, hr⟩
  exact hK v w' hr
end
end Go.Proofs.Ytifepmdhbhdjpaa.wr

/- What sbox's Subs and Backs answer; that the program answers at all. No claim of its own. -/
namespace Go.Proofs.Ytifepmdhbhdjpaa
open Go.RowKit
set_option maxRecDepth 20000

theorem ptab_allB : AllB ptab := allB_mem fun x hx => by
  have h : ptab.all (fun x => decide (0 ≤ x ∧ x ≤ 255)) = true := by decide +kernel
  simpa using List.all_eq_true.1 h x hx
theorem btab_allB : AllB btab := allB_mem fun x hx => by
  have h : btab.all (fun x => decide (0 ≤ x ∧ x ≤ 255)) = true := by decide +kernel
  simpa using List.all_eq_true.1 h x hx

set_option maxHeartbeats 2000000 in
theorem subs_any (v : Value) (xs : List Int) (w : World) (hv : Byt w v xs) (hmax : xs.length ≤ 1048576) :
    Calls Try.prog 72 #[v] w fun e w' => ∃ v', e = .returned v' ∧ Byt w' v' (looked ptab xs) ∧ Below w.heap.size w w' := by
  have HV : Hid (Byt w v xs) := hv
  have HM : Hid (xs.length ≤ 1048576) := hmax
  clear hv hmax
  go_enter Try.func72, Try.ntmps72
  go_wp2_with (first
    | (go_at_call 85; refine (look_any v xs ptab _ (HV.out.below B1) ptab_len ptab_allB HM.out).mono ?_; rintro e w2 ⟨v2, rfl, Y2, B2⟩)
    | (go_at_call 86; refine (puts_any _).mono ?_; rintro e w1 ⟨rfl, B1⟩))
  go_ret
  exact ⟨_, rfl, Y2, B1.trans (B2.mono B1.size)⟩

set_option maxHeartbeats 2000000 in
theorem backsl_any (v : Value) (xs : List Int) (w : World) (hv : Byt w v xs) (hmax : xs.length ≤ 1048576) :
    Calls Try.prog 78 #[v] w fun e w' => ∃ v', e = .returned v' ∧ Byt w' v' (looked btab xs) ∧ Below w.heap.size w w' := by
  have HV : Hid (Byt w v xs) := hv
  have HM : Hid (xs.length ≤ 1048576) := hmax
  clear hv hmax
  go_enter Try.func78, Try.ntmps78
  go_wp2_with (first
    | (go_at_call 85; refine (look_any v xs btab _ (HV.out.below B1) btab_len btab_allB HM.out).mono ?_; rintro e w2 ⟨v2, rfl, Y2, B2⟩)
    | (go_at_call 88; refine (backs_any _).mono ?_; rintro e w1 ⟨rfl, B1⟩))
  go_ret
  exact ⟨_, rfl, Y2, B1.trans (B2.mono B1.size)⟩

theorem sb_83 : sb 83 = 237 := by decide +kernel
theorem sk_237 : sk 237 = 83 := by decide +kernel
end Go.Proofs.Ytifepmdhbhdjpaa

/- What sbox's Word answers. No claim of its own. -/
namespace Go.Proofs.Ytifepmdhbhdjpaa
open Go.RowKit
set_option maxRecDepth 20000

/-- byte i of a word, from below -/
def wb (x i : Nat) : Nat := x / 256 ^ i % 256
theorem wb_lt (x i : Nat) : wb x i < 256 := Nat.mod_lt _ (by omega)
/-- what is put for the first k bytes of a word -/
def wsum (x : Nat) : Nat → Nat
  | 0 => 0
  | k + 1 => wsum x k + 256 ^ k * sb (wb x k)
theorem wsum_lt (x k : Nat) : wsum x k < 256 ^ k := by
  induction k with
  | zero => simp [wsum]
  | succ k ih =>
    have h := sb_lt _ (wb_lt x k)
    have : 256 ^ k * sb (wb x k) ≤ 256 ^ k * 255 := Nat.mul_le_mul_left _ (by omega)
    rw [wsum, Nat.pow_succ]; omega
theorem join4 (a b c d : Nat) (ha : a < 256) (hb : b < 256) (hc : c < 256) (hd : d < 256) :
    bits .or .u32 (bits .or .u32 (bits .or .u32 (IntKind.u32.wrap (IntKind.u32.wrap (a : Int) * 16777216)) (IntKind.u32.wrap (IntKind.u32.wrap (b : Int) * 65536))) (IntKind.u32.wrap (IntKind.u32.wrap (c : Int) * 256))) (IntKind.u32.wrap (d : Int)) = ((a * 16777216 + b * 65536 + c * 256 + d : Nat) : Int) := by
  have e1 : IntKind.u32.wrap (IntKind.u32.wrap (a : Int) * 16777216) = ((2 ^ 24 * a : Nat) : Int) := by rw [IntKind.wrap_u32', IntKind.wrap_u32']; omega
  have e2 : IntKind.u32.wrap (IntKind.u32.wrap (b : Int) * 65536) = ((2 ^ 16 * b : Nat) : Int) := by rw [IntKind.wrap_u32', IntKind.wrap_u32']; omega
  have e3 : IntKind.u32.wrap (IntKind.u32.wrap (c : Int) * 256) = ((2 ^ 8 * c : Nat) : Int) := by rw [IntKind.wrap_u32', IntKind.wrap_u32']; omega
  have e4 : IntKind.u32.wrap (d : Int) = (d : Int) := by rw [IntKind.wrap_u32']; omega
  rw [e1, e2, e3, e4, u32_or_nat _ _ (by omega) (by omega), ← Nat.two_pow_add_eq_or_of_lt (by omega) a]
  rw [show 2 ^ 24 * a + 2 ^ 16 * b = 2 ^ 16 * (256 * a + b) by omega, u32_or_nat _ _ (by omega) (by omega), ← Nat.two_pow_add_eq_or_of_lt (by omega) (256 * a + b)]
  rw [show 2 ^ 16 * (256 * a + b) + 2 ^ 8 * c = 2 ^ 8 * (65536 * a + 256 * b + c) by omega, u32_or_nat _ _ (by omega) (by omega), ← Nat.two_pow_add_eq_or_of_lt (by omega) (65536 * a + 256 * b + c)]
  omega

set_option maxRecDepth 20000 in
set_option maxHeartbeats 2000000 in
theorem word_any (x : Nat) (w : World) :
    Calls Try.prog 83 #[.int .u32 x] w fun e w' => e = .returned (.int .u32 (wsum x 4)) ∧ Below w.heap.size w w' := by
  have h3 : IntKind.u8.wrap ((x : Int) / 16777216) = (wb x 3 : Int) := by rw [IntKind.wrap_u8']; simp only [wb]; omega
  have h2 : IntKind.u8.wrap ((x : Int) / 65536) = (wb x 2 : Int) := by rw [IntKind.wrap_u8']; simp only [wb]; omega
  have h1 : IntKind.u8.wrap ((x : Int) / 256) = (wb x 1 : Int) := by rw [IntKind.wrap_u8']; simp only [wb]; omega
  have h0 : IntKind.u8.wrap (x : Int) = (wb x 0 : Int) := by rw [IntKind.wrap_u8']; simp only [wb]; omega
  have l3 := wb_lt x 3
  have l2 := wb_lt x 2
  have l1 := wb_lt x 1
  have l0 := wb_lt x 0
  have g3 := gb_p _ l3
  have g2 := gb_p _ l2
  have g1 := gb_p _ l1
  have g0 := gb_p _ l0
  have m3 := sb_lt _ l3
  have m2 := sb_lt _ l2
  have m1 := sb_lt _ l1
  have m0 := sb_lt _ l0
  have HW : Hid (wsum x 4 = sb (wb x 3) * 16777216 + sb (wb x 2) * 65536 + sb (wb x 1) * 256 + sb (wb x 0)) := by
    show _ = _
    simp only [wsum]; omega
  have HJ : Hid (sb (wb x 3) < 256 ∧ sb (wb x 2) < 256 ∧ sb (wb x 1) < 256 ∧ sb (wb x 0) < 256) := ⟨m3, m2, m1, m0⟩
  clear m3 m2 m1 m0
  generalize wsum x 4 = r at *
  generalize wb x 3 = i3 at *
  generalize wb x 2 = i2 at *
  generalize wb x 1 = i1 at *
  generalize wb x 0 = i0 at *
  generalize sb i3 = s3 at *
  generalize sb i2 = s2 at *
  generalize sb i1 = s1 at *
  generalize sb i0 = s0 at *
  have HG : Hid (gb ptab i3 = (s3 : Int) ∧ gb ptab i2 = (s2 : Int) ∧ gb ptab i1 = (s1 : Int) ∧ gb ptab i0 = (s0 : Int)) := ⟨g3, g2, g1, g0⟩
  clear g3 g2 g1 g0
  go_enter Try.func83, Try.ntmps83
  go_wp2_with (first
    | (go_at_call 86; refine (puts_any _).mono ?_; rintro e w1 ⟨rfl, B1⟩)
    | (have q1 := B1; refine new_lawF _ rfl 103 rfl .u8 z256 z_arr256 ?_; intro w2 A2 B2 z2; have HA2 : Hid (Ar w2 w1.heap.size 0 .u8 z256) := A2; clear A2)
    | (refine store_lawF _ rfl (.tmp 3) (.tmp 4) 103 rfl .u8 z256 ptab w1.heap.size rfl rfl HA2.out 256 i_arr256 z256_len ptab_len ?_; intro w3 A3 B3; have HA3 : Hid (Ar w3 w1.heap.size 0 .u8 ptab) := A3; clear A3))
  have c3 := HA3.out.cell0 i3 (by rw [ptab_len]; exact l3)
  have c2 := HA3.out.cell0 i2 (by rw [ptab_len]; exact l2)
  have c1 := HA3.out.cell0 i1 (by rw [ptab_len]; exact l1)
  have c0 := HA3.out.cell0 i0 (by rw [ptab_len]; exact l0)
  rw [HG.out.1] at c3
  rw [HG.out.2.1] at c2
  rw [HG.out.2.2.1] at c1
  rw [HG.out.2.2.2] at c0
  have o3 : (i3 : Int) < 256 := by omega
  have o2 : (i2 : Int) < 256 := by omega
  have o1 : (i1 : Int) < 256 := by omega
  have o0 : (i0 : Int) < 256 := by omega
  go_quiet (fail)
  go_wp2
  go_ret
  refine ⟨ret_int ?_, below_drewN ((B1.trans (B2.mono (by have := B1.size; omega))).trans (B3.mono (by have := B1.size; omega))) _⟩
  rw [HW.out]
  exact join4 s3 s2 s1 s0 HJ.out.1 HJ.out.2.1 HJ.out.2.2.1 HJ.out.2.2.2
end Go.Proofs.Ytifepmdhbhdjpaa

