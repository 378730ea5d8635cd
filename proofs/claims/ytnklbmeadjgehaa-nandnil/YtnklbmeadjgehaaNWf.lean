/- That an array stays right, whatever is done; that its bytes are only cleared but by erases and pokes; that no page is programmed more than twice between two erases. No claim of its own. -/
import Derived.Test.YtnklbmeadjgehaaNMath
namespace Go.Proofs.Ytnklbmeadjgehaa.na
open Go.RowKit Go.Proofs.Ytnklbmeadjgehaa.fa
set_option maxRecDepth 20000

theorem new_wf (N P S : Nat) : Wf N P S (new S) := fun b _ => ⟨fun p _ => ⟨by simp [new, pgs], allB_replicate 255 S (by omega), by simp [new, usd], by simp [new, usd]⟩, by simp [new, lsp], by simp [new, lsp]; omega, by simp [new, ers], by simp [new, ers, ops]⟩
theorem pwr_wf {N P S : Nat} {s : St} (h : Wf N P S s) (on : Bool) : Wf N P S (pwr s on) := h
theorem pno_none {N P S : Nat} {s : St} {b p : Int} {d : List Int} (h : pno N P S s b p d = none) : off s = false ∧ (0 ≤ b ∧ b < N ∧ 0 ≤ p ∧ p < P ∧ d.length = S) ∧ scr s b.toNat = false ∧ usd s b.toNat p.toNat < 2 ∧ ¬ (usd s b.toNat p.toNat = 0 ∧ p ≤ lsp s b.toNat) := by
  unfold pno at h
  split at h
  · cases h
  rename_i h1
  split at h
  · cases h
  rename_i h2
  split at h
  · cases h
  rename_i h3
  split at h
  · cases h
  rename_i h4
  exact ⟨Bool.eq_false_iff.2 h1, Classical.not_not.1 h2, Bool.eq_false_iff.2 fun e => h3 (Or.inl e), by have : ¬ 2 ≤ usd s b.toNat p.toNat := fun e => h3 (Or.inr e); omega, h4⟩
theorem eno_none {N : Nat} {s : St} {b : Int} (h : eno N s b = none) : off s = false ∧ 0 ≤ b ∧ b < N := by
  unfold eno at h
  split at h
  · cases h
  rename_i h1
  split at h
  · cases h
  rename_i h2
  have := Classical.not_not.1 h2
  exact ⟨Bool.eq_false_iff.2 h1, this.1, this.2⟩
theorem kno_none {N P S : Nat} {s : St} {b p a : Int} (h : kno N P S s b p a = none) : off s = true ∧ 0 ≤ b ∧ b < N ∧ 0 ≤ p ∧ p < P ∧ 0 ≤ a ∧ a < S := by
  unfold kno at h
  split at h
  · cases h
  rename_i h1
  split at h
  · cases h
  rename_i h2
  exact ⟨Classical.not_not.1 h1, Classical.not_not.1 h2⟩

theorem pdo_wf {N P S : Nat} {s : St} (h : Wf N P S s) (pl : Pln) (b p : Nat) (d : List Int) (hp : p < P) (hu : usd s b p < 2) : Wf N P S (pdo S pl s b p d) := fun k hk => by
  obtain ⟨h1, h2, h3, h4, h5⟩ := h k hk
  refine ⟨fun j hj => ?_, ?_, ?_, h4, ?_⟩
  · obtain ⟨q1, q2, q3, q4⟩ := h1 j hj
    by_cases e : k = b ∧ j = p
    · obtain ⟨rfl, rfl⟩ := e
      have w := pgm_wf (b := d) S (pl (ops s)) q2 q1
      refine ⟨?_, ?_, ?_, ?_⟩
      · show (at2 (α := List Int) _ _ _ _ k j).length = S
        rw [at2_same]; exact w.1
      · show AllB (at2 _ _ _ _ k j)
        rw [at2_same]; exact w.2
      · show 0 ≤ at2 _ _ _ _ k j
        rw [at2_same]; omega
      · show at2 _ _ _ _ k j ≤ 2
        rw [at2_same]; omega
    · refine ⟨?_, ?_, ?_, ?_⟩
      · show (at2 (α := List Int) _ _ _ _ k j).length = S
        rw [at2_other _ _ _ _ _ _ e]; exact q1
      · show AllB (at2 _ _ _ _ k j)
        rw [at2_other _ _ _ _ _ _ e]; exact q2
      · show 0 ≤ at2 _ _ _ _ k j
        rw [at2_other _ _ _ _ _ _ e]; exact q3
      · show at2 _ _ _ _ k j ≤ 2
        rw [at2_other _ _ _ _ _ _ e]; exact q4
  · show -1 ≤ at1 _ _ _ k
    unfold at1
    split
    · rename_i e; subst e; omega
    · exact h2
  · show at1 _ _ _ k < (P : Int)
    unfold at1
    split
    · rename_i e; subst e; omega
    · exact h3
  · show ers s k ≤ ((ops s + 1 : Nat) : Int)
    omega
theorem edo_wf {N P S : Nat} {s : St} (h : Wf N P S s) (pl : Pln) (b : Nat) : Wf N P S (edo P S pl s b) := fun k hk => by
  obtain ⟨h1, h2, h3, h4, h5⟩ := h k hk
  refine ⟨fun j hj => ?_, ?_, ?_, ?_, ?_⟩
  · obtain ⟨q1, q2, q3, q4⟩ := h1 j hj
    refine ⟨?_, ?_, ?_, ?_⟩
    · show (if k = b then ern P S (pl (ops s)) (pgs s b) j else pgs s k j).length = S
      split
      · exact (ern_wf P S _ _ j hj).1
      · exact q1
    · show AllB (if k = b then ern P S (pl (ops s)) (pgs s b) j else pgs s k j)
      split
      · exact (ern_wf P S _ _ j hj).2
      · exact q2
    · show 0 ≤ (if k = b ∧ (pl (ops s)).isNone = true then 0 else usd s k j)
      split
      · omega
      · exact q3
    · show (if k = b ∧ (pl (ops s)).isNone = true then 0 else usd s k j) ≤ 2
      split
      · omega
      · exact q4
  · show -1 ≤ (if k = b ∧ (pl (ops s)).isNone = true then -1 else lsp s k)
    split
    · omega
    · exact h2
  · show (if k = b ∧ (pl (ops s)).isNone = true then -1 else lsp s k) < (P : Int)
    split
    · omega
    · exact h3
  · show 0 ≤ at1 _ _ _ k
    unfold at1
    split
    · rename_i e; subst e; omega
    · exact h4
  · show at1 _ _ _ k ≤ ((ops s + 1 : Nat) : Int)
    unfold at1
    split
    · rename_i e; subst e; omega
    · omega
theorem sdo_wf {N P S : Nat} {s : St} (h : Wf N P S s) (pl : Pln) (b : Nat) : Wf N P S (sdo P S pl s b) := fun k hk => by
  obtain ⟨h1, h2, h3, h4, h5⟩ := h k hk
  refine ⟨fun j hj => ?_, h2, h3, h4, ?_⟩
  · obtain ⟨q1, q2, q3, q4⟩ := h1 j hj
    refine ⟨?_, ?_, q3, q4⟩
    · show (if k = b then scn P S (pl (ops s)) (pgs s b) j else pgs s k j).length = S
      split
      · exact (scn_wf P S _ _ j hj).1
      · exact q1
    · show AllB (if k = b then scn P S (pl (ops s)) (pgs s b) j else pgs s k j)
      split
      · exact (scn_wf P S _ _ j hj).2
      · exact q2
  · show ers s k ≤ ((ops s + 1 : Nat) : Int)
    omega
theorem gb_set1 (xs : List Int) (a j : Nat) (x : Int) (ha : a < xs.length) : gb (xs.set a x) j = if j = a then x else gb xs j := by
  unfold gb
  rw [List.getD_eq_getElem?_getD, List.getD_eq_getElem?_getD, List.getElem?_set]
  by_cases e : a = j
  · subst e; simp [ha]
  · rw [if_neg e, if_neg (Ne.symm e)]
theorem kdo_wf {N P S : Nat} {s : St} (h : Wf N P S s) (b p a : Nat) (x : Int) (hx : 0 ≤ x ∧ x ≤ 255) (ha : a < S) : Wf N P S (kdo s b p a x) := fun k hk => by
  obtain ⟨h1, h2⟩ := h k hk
  refine ⟨fun j hj => ?_, h2⟩
  obtain ⟨q1, q2, q34⟩ := h1 j hj
  refine ⟨?_, ?_, q34⟩
  · show (at2 (α := List Int) _ _ _ _ k j).length = S
    unfold at2
    split
    · rename_i e; obtain ⟨rfl, rfl⟩ := e; rw [List.length_set]; exact q1
    · exact q1
  · show AllB (at2 _ _ _ _ k j)
    unfold at2
    split
    · rename_i e; obtain ⟨rfl, rfl⟩ := e
      intro i
      rw [gb_set1 _ _ _ _ (by omega)]
      split
      · exact hx
      · exact q2 i
    · exact q2

/-! ### what is cleared -/
theorem jnd_congr {f g : Nat → List Int} : ∀ {P : Nat}, (∀ p, p < P → f p = g p) → jnd P f = jnd P g
  | 0, _ => rfl
  | P + 1, h => by rw [jnd_succ, jnd_succ, jnd_congr (P := P) fun p hp => h p (by omega), h P (by omega)]
theorem img_cl {N P S : Nat} {s s' : St} (h : Wf N P S s) (b : Nat) (ho : ∀ k, k < N → k ≠ b → ∀ p, p < P → pgs s' k p = pgs s k p) (hb : b < N → Cl (jnd P (pgs s b)) (jnd P (pgs s' b))) : Cl (img N P s) (img N P s') :=
  Cl.flat fun k hk => by
    by_cases e : k = b
    · subst e; exact hb hk
    · have : jnd P (pgs s' k) = jnd P (pgs s k) := by
        exact jnd_congr fun p hp => ho k hk e p hp
      rw [this]
      exact Cl.refl (jnd_all P _ fun p hp => ((h k hk).1 p hp).2.1)
theorem pdo_cl {N P S : Nat} {s : St} (h : Wf N P S s) (pl : Pln) (b p : Nat) (d : List Int) : Cl (img N P s) (img N P (pdo S pl s b p d)) :=
  img_cl h b (fun k _ e j _ => at2_other _ _ _ _ _ _ fun q => e q.1) fun hb => Cl.flat fun j hj => by
    obtain ⟨q1, q2, -, -⟩ := (h b hb).1 j hj
    show Cl (pgs s b j) (at2 _ _ _ _ b j)
    by_cases e : j = p
    · subst e
      rw [at2_same]; exact cl_pgm S _ q2 q1
    · rw [at2_other _ _ _ _ _ _ fun q => e q.2]; exact Cl.refl q2
theorem sdo_cl {N P S : Nat} {s : St} (h : Wf N P S s) (pl : Pln) (b : Nat) : Cl (img N P s) (img N P (sdo P S pl s b)) :=
  img_cl h b (fun k _ e j _ => if_neg e) fun hb => by
    have e : pgs (sdo P S pl s b) b = scn P S (pl (ops s)) (pgs s b) := funext fun j => if_pos rfl
    rw [e]
    exact cl_scn P S _ _ fun j hj => ⟨((h b hb).1 j hj).1, ((h b hb).1 j hj).2.1⟩
theorem img_len {N P S : Nat} {s : St} (h : Wf N P S s) : (img N P s).length = N * (P * S) :=
  jnd_len N (P * S) (fun b => jnd P (pgs s b)) fun b hb => jnd_len P S _ fun p hp => ((h b hb).1 p hp).1
theorem img_all {N P S : Nat} {s : St} (h : Wf N P S s) : AllB (img N P s) := jnd_all N (fun b => jnd P (pgs s b)) fun b hb => jnd_all P _ fun p hp => ((h b hb).1 p hp).2.1

/-! ### what was done: kind, block, page, bytes, answer -/
def Opn : Type := Int × Int × Int × List Int × Int
def opn (k b p : Int) (d : List Int) (e : Int) : Opn := (k, b, p, d, e)
/-- how many programs of a page behind the last erase of its block that was done whole -/
def cnt (b p : Int) (c : Int) (o : Opn) : Int := (if o.1 = 2 ∧ o.2.2.2.2 = 0 ∧ o.2.1 = b then 0 else c) + if o.1 = 1 ∧ o.2.1 = b ∧ o.2.2.1 = p then 1 else 0
def cnts (l : List Opn) (b p : Int) : Int := l.foldl (cnt b p) 0
theorem cnts_snoc (l : List Opn) (o : Opn) (b p : Int) : cnts (l ++ [o]) b p = cnt b p (cnts l b p) o := by simp [cnts]
/-- each program was at most the second of its page -/
def Two2 (l : List Opn) : Prop := ∀ i (o : Opn), l[i]? = some o → o.1 = 1 → cnts (l.take (i + 1)) o.2.1 o.2.2.1 ≤ 2
theorem two_snoc {l : List Opn} {o : Opn} (h : Two2 l) (ho : o.1 = 1 → cnts (l ++ [o]) o.2.1 o.2.2.1 ≤ 2) : Two2 (l ++ [o]) := fun i q hq h1 => by
  rcases Nat.lt_trichotomy i l.length with e | e | e
  · rw [List.getElem?_append_left e] at hq
    rw [List.take_append_of_le_length (by omega)]
    exact h i q hq h1
  · subst e
    rw [List.getElem?_append_right (Nat.le_refl _), Nat.sub_self] at hq
    have : o = q := by simpa using hq
    subst this
    rw [List.take_of_length_le (by simp)]
    exact ho h1
  · rw [List.getElem?_eq_none (by simp; omega)] at hq
    cases hq
/-- what was done tells how often each page was programmed -/
def Trc (N P : Nat) (s : St) (l : List Opn) : Prop := l.length = ops s ∧ Two2 l ∧ ∀ b p : Nat, b < N → p < P → cnts l b p = usd s b p
theorem trc_new (N P S : Nat) : Trc N P (new S) [] := ⟨rfl, fun i o h => by simp at h, fun _ _ _ _ => rfl⟩
theorem trc_pwr {N P : Nat} {s : St} {l : List Opn} (h : Trc N P s l) (on : Bool) : Trc N P (pwr s on) l := h
theorem trc_kdo {N P : Nat} {s : St} {l : List Opn} (h : Trc N P s l) (b p a : Nat) (x : Int) : Trc N P (kdo s b p a x) l := h
theorem trc_pdo {N P S : Nat} {s : St} {l : List Opn} (h : Trc N P s l) (pl : Pln) (b p : Nat) (d : List Int) (e : Int) (hb : b < N) (hp : p < P) (hu : usd s b p < 2) : Trc N P (pdo S pl s b p d) (l ++ [opn 1 b p d e]) := by
  obtain ⟨h1, h2, h3⟩ := h
  have key : ∀ k j : Nat, k < N → j < P → cnts (l ++ [opn 1 b p d e]) k j = at2 (usd s) b p (usd s b p + 1) k j := fun k j hk hj => by
    rw [cnts_snoc, h3 k j hk hj]
    show (if (1 : Int) = 2 ∧ e = 0 ∧ (b : Int) = k then 0 else usd s k j) + (if (1 : Int) = 1 ∧ (b : Int) = k ∧ (p : Int) = j then 1 else 0) = _
    rw [if_neg (by omega)]
    by_cases q : k = b ∧ j = p
    · obtain ⟨rfl, rfl⟩ := q
      rw [at2_same, if_pos ⟨rfl, rfl, rfl⟩]
    · rw [at2_other _ _ _ _ _ _ q, if_neg (by omega), Int.add_zero]
  refine ⟨by rw [List.length_append, h1]; rfl, two_snoc h2 fun _ => ?_, key⟩
  show cnts (l ++ [opn 1 b p d e]) (b : Int) (p : Int) ≤ 2
  rw [key b p hb hp, at2_same]; omega
theorem trc_edo {N P S : Nat} {s : St} {l : List Opn} (h : Trc N P s l) (pl : Pln) (b : Nat) (d : List Int) : Trc N P (edo P S pl s b) (l ++ [opn 2 b 0 d (ans (pl (ops s)))]) := by
  obtain ⟨h1, h2, h3⟩ := h
  refine ⟨by rw [List.length_append, h1]; rfl, two_snoc h2 (fun q => absurd (show (2 : Int) = 1 from q) (by decide)), fun k j hk hj => ?_⟩
  rw [cnts_snoc, h3 k j hk hj]
  show (if (2 : Int) = 2 ∧ ans (pl (ops s)) = 0 ∧ (b : Int) = k then 0 else usd s k j) + (if (2 : Int) = 1 ∧ (b : Int) = k ∧ (0 : Int) = j then 1 else 0) = if k = b ∧ (pl (ops s)).isNone = true then 0 else usd s k j
  rw [if_neg (show ¬ ((2 : Int) = 1 ∧ (b : Int) = k ∧ (0 : Int) = j) by omega), Int.add_zero]
  have ha : ans (pl (ops s)) = 0 ↔ (pl (ops s)).isNone = true := by
    match pl (ops s) with
    | none => simp [ans]
    | some (true, m) => simp [ans]
    | some (false, m) => simp [ans]
  by_cases e : k = b ∧ (pl (ops s)).isNone = true
  · rw [if_pos e, if_pos ⟨rfl, ha.2 e.2, by omega⟩]
  · rw [if_neg e, if_neg fun q => e ⟨by omega, ha.1 q.2.1⟩]
theorem trc_sdo {N P S : Nat} {s : St} {l : List Opn} (h : Trc N P s l) (pl : Pln) (b : Nat) (d : List Int) (e : Int) : Trc N P (sdo P S pl s b) (l ++ [opn 3 b 0 d e]) := by
  obtain ⟨h1, h2, h3⟩ := h
  refine ⟨by rw [List.length_append, h1]; rfl, two_snoc h2 (fun q => absurd (show (3 : Int) = 1 from q) (by decide)), fun k j hk hj => ?_⟩
  rw [cnts_snoc, h3 k j hk hj]
  show (if (3 : Int) = 2 ∧ e = 0 ∧ (b : Int) = k then 0 else usd s k j) + (if (3 : Int) = 1 ∧ (b : Int) = k ∧ (0 : Int) = j then 1 else 0) = usd s k j
  rw [if_neg (by omega), if_neg (by omega), Int.add_zero]
end Go.Proofs.Ytnklbmeadjgehaa.na
