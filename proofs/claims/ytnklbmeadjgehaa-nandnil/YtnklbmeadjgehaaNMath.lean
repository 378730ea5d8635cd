/- An array of pages as plain data: what programs, erases, scrubs and pokes make of it; that programs only clear, that what is refused changes nothing, that no page is programmed more than twice between two erases. No claim of its own. -/
import Derived.Test.YtnklbmeadjgehaaUJoin
namespace Go.Proofs.Ytnklbmeadjgehaa.na
open Go.RowKit Go.Proofs.Ytnklbmeadjgehaa.fa
set_option maxRecDepth 20000

/-- an array: each page's bytes, how often it was programmed, of each block the last page that was (or -1), was it scrubbed, how often it was erased; has it no power; how many operations there were -/
def St : Type := (Nat → Nat → List Int) × (Nat → Nat → Int) × (Nat → Int) × (Nat → Bool) × (Nat → Int) × Bool × Nat
def pgs (s : St) : Nat → Nat → List Int := s.1
def usd (s : St) : Nat → Nat → Int := s.2.1
def lsp (s : St) : Nat → Int := s.2.2.1
def scr (s : St) : Nat → Bool := s.2.2.2.1
def ers (s : St) : Nat → Int := s.2.2.2.2.1
def off (s : St) : Bool := s.2.2.2.2.2.1
def ops (s : St) : Nat := s.2.2.2.2.2.2
/-- what is at one place, or at others -/
def at1 {α : Type} (f : Nat → α) (b : Nat) (x : α) (k : Nat) : α := if k = b then x else f k
def at2 {α : Type} (f : Nat → Nat → α) (b p : Nat) (x : α) (k j : Nat) : α := if k = b ∧ j = p then x else f k j
theorem at1_same {α : Type} (f : Nat → α) (b : Nat) (x : α) : at1 f b x b = x := if_pos rfl
theorem at1_other {α : Type} (f : Nat → α) (b : Nat) (x : α) (k : Nat) (h : k ≠ b) : at1 f b x k = f k := if_neg h
theorem at2_same {α : Type} (f : Nat → Nat → α) (b p : Nat) (x : α) : at2 f b p x b p = x := if_pos ⟨rfl, rfl⟩
theorem at2_other {α : Type} (f : Nat → Nat → α) (b p : Nat) (x : α) (k j : Nat) (h : ¬ (k = b ∧ j = p)) : at2 f b p x k j = f k j := if_neg h

/-- what a plan says of an operation: none, or is it a crash, and the mask -/
def Pln : Type := Nat → Option (Bool × List Int)
/-- the answer, and does the power go -/
def ans : Option (Bool × List Int) → Int
  | none => 0
  | some (c, _) => if c then 4 else 5
def crs : Option (Bool × List Int) → Bool
  | none => false
  | some (c, _) => c
/-- a page behind a program -/
def pgm (S : Nat) (o : Option (Bool × List Int)) (was b : List Int) : List Int := match o with
  | none => andl was b
  | some (true, m) => ofb S (torn was b m)
  | some (false, m) => ofb S (failed was b m (8 * S))
/-- all bytes of a block's pages -/
def jnd (P : Nat) (f : Nat → List Int) : List Int := (List.range P).flatMap f
/-- page p of a list -/
def cut (S : Nat) (l : List Int) (p : Nat) : List Int := (l.drop (p * S)).take S
/-- there is such a page -/
def Pg (N P : Nat) (b p : Int) : Prop := 0 ≤ b ∧ b < N ∧ 0 ≤ p ∧ p < P

/-- a program that is refused: why -/
def pno (N P S : Nat) (s : St) (b p : Int) (d : List Int) : Option Int :=
  if off s = true then some 4
  else if ¬ (0 ≤ b ∧ b < N ∧ 0 ≤ p ∧ p < P ∧ d.length = S) then some 2
  else if scr s b.toNat = true ∨ 2 ≤ usd s b.toNat p.toNat then some 7
  else if usd s b.toNat p.toNat = 0 ∧ p ≤ lsp s b.toNat then some 6
  else none
/-- an array behind a program that is done -/
def pdo (S : Nat) (pl : Pln) (s : St) (b p : Nat) (d : List Int) : St :=
  (at2 (pgs s) b p (pgm S (pl (ops s)) (pgs s b p) d), at2 (usd s) b p (usd s b p + 1), at1 (lsp s) b (max (lsp s b) p), scr s, ers s, crs (pl (ops s)), ops s + 1)
/-- an erase or a scrub that is refused: why -/
def eno (N : Nat) (s : St) (b : Int) : Option Int := if off s = true then some 4 else if ¬ (0 ≤ b ∧ b < N) then some 2 else none
/-- a block's pages behind an erase -/
def ern (P S : Nat) (o : Option (Bool × List Int)) (f : Nat → List Int) (p : Nat) : List Int := match o with
  | none => List.replicate S 255
  | some (_, m) => cut S (ofb (P * S) (erased (jnd P f) m)) p
def edo (P S : Nat) (pl : Pln) (s : St) (b : Nat) : St :=
  (fun k p => if k = b then ern P S (pl (ops s)) (pgs s b) p else pgs s k p,
    fun k p => if k = b ∧ (pl (ops s)).isNone = true then 0 else usd s k p, fun k => if k = b ∧ (pl (ops s)).isNone = true then -1 else lsp s k,
    fun k => if k = b ∧ (pl (ops s)).isNone = true then false else scr s k, at1 (ers s) b (ers s b + 1), crs (pl (ops s)), ops s + 1)
/-- a block's pages behind a scrub -/
def scn (P S : Nat) (o : Option (Bool × List Int)) (f : Nat → List Int) (p : Nat) : List Int := match o with
  | none => List.replicate S 0
  | some (_, m) => cut S (ofb (P * S) (torn (jnd P f) (List.replicate (P * S) 0) m)) p
def sdo (P S : Nat) (pl : Pln) (s : St) (b : Nat) : St :=
  (fun k p => if k = b then scn P S (pl (ops s)) (pgs s b) p else pgs s k p, usd s, lsp s, at1 (scr s) b true, ers s, crs (pl (ops s)), ops s + 1)
/-- a poke that is refused: why -/
def kno (N P S : Nat) (s : St) (b p a : Int) : Option Int := if ¬ off s = true then some 4 else if ¬ (0 ≤ b ∧ b < N ∧ 0 ≤ p ∧ p < P ∧ 0 ≤ a ∧ a < S) then some 2 else none
def kdo (s : St) (b p a : Nat) (x : Int) : St := (at2 (pgs s) b p ((pgs s b p).set a x), usd s, lsp s, scr s, ers s, off s, ops s)
/-- the power is turned on or off -/
def pwr (s : St) (on : Bool) : St := (pgs s, usd s, lsp s, scr s, ers s, !on, ops s)
/-- a new array -/
def new (S : Nat) : St := (fun _ _ => List.replicate S 255, fun _ _ => 0, fun _ => -1, fun _ => false, fun _ => 0, false, 0)
/-- all bytes -/
def img (N P : Nat) (s : St) : List Int := (List.range N).flatMap fun b => jnd P (pgs s b)

/-! ### what is right -/
def Wf (N P S : Nat) (s : St) : Prop := ∀ b, b < N → (∀ p, p < P → (pgs s b p).length = S ∧ AllB (pgs s b p) ∧ 0 ≤ usd s b p ∧ usd s b p ≤ 2) ∧ -1 ≤ lsp s b ∧ lsp s b < P ∧ 0 ≤ ers s b ∧ ers s b ≤ ops s

theorem jnd_len (P S : Nat) (f : Nat → List Int) (h : ∀ p, p < P → (f p).length = S) : (jnd P f).length = P * S := by
  induction P with
  | zero => simp [jnd]
  | succ P ih =>
    unfold jnd at ih ⊢
    rw [List.range_succ, List.flatMap_append, List.length_append, ih (fun p hp => h p (by omega))]
    simp [h P (by omega), Nat.succ_mul]
theorem jnd_succ (P : Nat) (f : Nat → List Int) : jnd (P + 1) f = jnd P f ++ f P := by
  unfold jnd
  rw [List.range_succ, List.flatMap_append]
  simp
theorem gb_app (xs ys : List Int) (k : Nat) : gb (xs ++ ys) k = if k < xs.length then gb xs k else gb ys (k - xs.length) := by
  unfold gb
  rw [List.getD_eq_getElem?_getD]
  by_cases h : k < xs.length
  · rw [if_pos h, List.getElem?_append_left h]; rfl
  · rw [if_neg h, List.getElem?_append_right (by omega)]; rfl
theorem jnd_gb (P S : Nat) (f : Nat → List Int) (h : ∀ p, p < P → (f p).length = S) (p j : Nat) (hp : p < P) (hj : j < S) : gb (jnd P f) (p * S + j) = gb (f p) j := by
  induction P with
  | zero => omega
  | succ P ih =>
    have hl := jnd_len P S f (fun p hp => h p (by omega))
    rw [jnd_succ, gb_app, hl]
    by_cases e : p = P
    · subst e
      rw [if_neg (by omega), show p * S + j - p * S = j by omega]
    · have : (p + 1) * S ≤ P * S := Nat.mul_le_mul_right S (by omega)
      rw [Nat.succ_mul] at this
      rw [if_pos (by omega)]
      exact ih (fun p hp => h p (by omega)) (by omega)
theorem jnd_all (P : Nat) (f : Nat → List Int) (h : ∀ p, p < P → AllB (f p)) : AllB (jnd P f) := allB_mem fun x hx => by
  obtain ⟨p, hp, hx⟩ := List.mem_flatMap.1 hx
  obtain ⟨i, hi, rfl⟩ := List.getElem_of_mem hx
  have := h p (List.mem_range.1 hp) i
  simpa [gb, List.getD, hi] using this
theorem cut_len (S : Nat) (l : List Int) (P p : Nat) (hl : l.length = P * S) (hp : p < P) : (cut S l p).length = S := by
  have : (p + 1) * S ≤ P * S := Nat.mul_le_mul_right S (by omega)
  rw [Nat.succ_mul] at this
  simp [cut]
  omega
theorem cut_gb (S : Nat) (l : List Int) (p j : Nat) (hj : j < S) : gb (cut S l p) j = gb l (p * S + j) := by
  simp [gb, List.getD, cut, hj]
theorem cut_all (S : Nat) (l : List Int) (p : Nat) (h : AllB l) : AllB (cut S l p) := fun j => by
  by_cases hj : j < S
  · rw [cut_gb S l p j hj]; exact h _
  · have : gb (cut S l p) j = 0 := by
      simp only [gb, List.getD, List.getElem?_eq_none (show (cut S l p).length ≤ j by simp [cut]; omega)]; rfl
    omega
/-- a list, cut and joined again -/
theorem jnd_cut (P S : Nat) (l : List Int) (hl : l.length = P * S) : jnd P (cut S l) = l := by
  have hc : ∀ p, p < P → (cut S l p).length = S := fun p hp => cut_len S l P p hl hp
  refine ext_gb (by rw [jnd_len P S _ hc, hl]) fun k hk => ?_
  rw [jnd_len P S _ hc] at hk
  rcases Nat.eq_zero_or_pos S with h0 | h0
  · subst h0; omega
  have e : k = k / S * S + k % S := by rw [Nat.mul_comm]; exact (Nat.div_add_mod k S).symm
  have hp : k / S < P := (Nat.div_lt_iff_lt_mul h0).2 hk
  have hm : k % S < S := Nat.mod_lt _ h0
  rw [e, jnd_gb P S _ hc (k / S) (k % S) hp hm, cut_gb S l _ _ hm]

/-! ### what only clears -/
/-- ys is xs, with bits cleared alone -/
def Cl (xs ys : List Int) : Prop := xs.length = ys.length ∧ ∀ k, k < xs.length → (((gb xs k).toNat &&& (gb ys k).toNat : Nat) : Int) = gb ys k
theorem Cl.andl {xs ys : List Int} (h : Cl xs ys) : andl xs ys = ys := ext_gb (by rw [andl_len]; exact h.1) fun k hk => by
  rw [andl_len] at hk
  rw [andl_gb xs ys k hk]; exact h.2 k hk
theorem Cl.refl {xs : List Int} (h : AllB xs) : Cl xs xs := ⟨rfl, fun k _ => by rw [Nat.and_self]; have := h k; omega⟩
theorem Cl.app {a b c d : List Int} (h : Cl a b) (h' : Cl c d) : Cl (a ++ c) (b ++ d) := by
  refine ⟨by rw [List.length_append, List.length_append, h.1, h'.1], fun k hk => ?_⟩
  rw [List.length_append] at hk
  rw [gb_app, gb_app, h.1]
  by_cases e : k < b.length
  · rw [if_pos e, if_pos e]; exact h.2 k (by rw [h.1]; exact e)
  · rw [if_neg e, if_neg e]; exact h'.2 _ (by have := h.1; omega)
theorem Cl.flat {f g : Nat → List Int} : ∀ {P : Nat}, (∀ p, p < P → Cl (f p) (g p)) → Cl ((List.range P).flatMap f) ((List.range P).flatMap g)
  | 0, _ => ⟨rfl, fun k hk => by simp at hk⟩
  | P + 1, h => by
    rw [List.range_succ, List.flatMap_append, List.flatMap_append]
    have := (Cl.flat (P := P) fun p hp => h p (by omega)).app (h P (by omega))
    simpa using this
theorem cl_bits {xs : List Int} (hx : AllB xs) (c : Nat → Bool) (h : ∀ i, i < 8 * xs.length → (c i && hs xs i) = c i) : Cl xs (ofb xs.length c) := by
  refine ⟨(ofb_len _ _).symm, fun k hk => ?_⟩
  rw [ands_ofb xs _ hx k, ofb_gb _ _ k hk, wt_congr (d := c) fun t ht => ?_]
  rw [hs_ofb _ _ _ (by omega), Bool.and_comm]
  exact h _ (by omega)
theorem cl_and {xs ys : List Int} (hx : AllB xs) : Cl xs (andl xs ys) := by
  rw [andl_ofb xs ys hx]
  exact cl_bits hx _ fun i _ => by cases hs xs i <;> simp
theorem cl_zero (xs : List Int) : Cl xs (List.replicate xs.length 0) := by
  refine ⟨by simp, fun k hk => ?_⟩
  have : gb (List.replicate xs.length (0 : Int)) k = 0 := by simp [gb, List.getD, hk]
  rw [this, show (0 : Int).toNat = 0 from rfl, Nat.and_zero]; rfl
/-- a program only clears -/
theorem cl_pgm {was b : List Int} (S : Nat) (o : Option (Bool × List Int)) (hw : AllB was) (hl : was.length = S) : Cl was (pgm S o was b) := by
  subst hl
  match o with
  | none => exact cl_and hw
  | some (true, m) => exact cl_bits hw _ fun i _ => torn_sub was b m i
  | some (false, m) => exact cl_bits hw _ fun i _ => failed_sub was b m _ i
theorem pgm_wf {was b : List Int} (S : Nat) (o : Option (Bool × List Int)) (hw : AllB was) (hl : was.length = S) : (pgm S o was b).length = S ∧ AllB (pgm S o was b) := by
  match o with
  | none => exact ⟨by rw [pgm, andl_len]; exact hl, andl_all _ _ hw⟩
  | some (true, m) => exact ⟨ofb_len _ _, ofb_all _ _⟩
  | some (false, m) => exact ⟨ofb_len _ _, ofb_all _ _⟩
theorem ern_wf (P S : Nat) (o : Option (Bool × List Int)) (f : Nat → List Int) (p : Nat) (hp : p < P) : (ern P S o f p).length = S ∧ AllB (ern P S o f p) := by
  match o with
  | none => exact ⟨by simp [ern], allB_replicate 255 S (by omega)⟩
  | some (c, m) => exact ⟨cut_len S _ P p (ofb_len _ _) hp, cut_all S _ p (ofb_all _ _)⟩
theorem scn_wf (P S : Nat) (o : Option (Bool × List Int)) (f : Nat → List Int) (p : Nat) (hp : p < P) : (scn P S o f p).length = S ∧ AllB (scn P S o f p) := by
  match o with
  | none => exact ⟨by simp [scn], allB_replicate 0 S (by omega)⟩
  | some (c, m) => exact ⟨cut_len S _ P p (ofb_len _ _) hp, cut_all S _ p (ofb_all _ _)⟩
/-- a scrub only clears -/
theorem cl_scn (P S : Nat) (o : Option (Bool × List Int)) (f : Nat → List Int) (hf : ∀ p, p < P → (f p).length = S ∧ AllB (f p)) : Cl (jnd P f) (jnd P (scn P S o f)) := by
  have hl := jnd_len P S f fun p hp => (hf p hp).1
  have ha := jnd_all P f fun p hp => (hf p hp).2
  match o with
  | none =>
    have : jnd P (scn P S none f) = List.replicate (jnd P f).length 0 := by
      refine ext_gb (by rw [jnd_len P S _ fun p hp => (scn_wf P S none f p hp).1, List.length_replicate, hl]) fun k hk => ?_
      rw [jnd_len P S _ fun p hp => (scn_wf P S none f p hp).1] at hk
      rcases Nat.eq_zero_or_pos S with h0 | h0
      · subst h0; omega
      have e : k = k / S * S + k % S := by rw [Nat.mul_comm]; exact (Nat.div_add_mod k S).symm
      have hp : k / S < P := (Nat.div_lt_iff_lt_mul h0).2 hk
      have hm : k % S < S := Nat.mod_lt _ h0
      have h1 := jnd_gb P S _ (fun p hp => (scn_wf P S none f p hp).1) (k / S) (k % S) hp hm
      rw [← e] at h1
      rw [h1]
      simp [scn, gb, List.getD, hm, hl, hk]
    rw [this]
    exact cl_zero _
  | some (c, m) =>
    have : jnd P (scn P S (some (c, m)) f) = ofb (P * S) (torn (jnd P f) (List.replicate (P * S) 0) m) := jnd_cut P S _ (ofb_len _ _)
    rw [this, ← hl]
    exact cl_bits ha _ fun i _ => torn_sub _ _ m i
end Go.Proofs.Ytnklbmeadjgehaa.na
