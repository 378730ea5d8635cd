/- Texts put together. -/
import Derived.Test.YtikcohjhhoiakaaPk10
import Derived.Test.YtikcohjhhoiakaaPk08
import Derived.Test.YtikcohjhhoiakaaPk24
import Derived.Test.YtikcohjhhoiakaaPk25
set_option maxHeartbeats 8000000
namespace Go.Proofs.Ytikcohjhhoiakaa.na
open Go.RowKit Go.Proofs.Ytikcohjhhoiakaa.fa
set_option maxRecDepth 20000
theorem cut_of_jnd (P S : Nat) (f : Nat → List Int) (h : ∀ p, p < P → (f p).length = S) (p : Nat) (hp : p < P) : cut S (jnd P f) p = f p := by
 induction P with
 | zero => omega
 | succ P ih =>
  have hl := jnd_len P S f (fun p hp => h p (by omega))
  rw [jnd_succ]
  unfold cut at ih ⊢
  by_cases e : p = P
  ·subst e
   rw [List.drop_append_of_le_length (by omega), show (jnd p f).drop (p * S) = [] from List.drop_eq_nil_of_le (by omega), List.nil_append]
   exact List.take_of_length_le (by rw [h p hp]; exact Nat.le_refl _)
  ·have hm := Nat.mul_le_mul_right S (show p + 1 ≤ P by omega)
   rw [Nat.succ_mul] at hm
   rw [List.drop_append_of_le_length (by omega), List.take_append_of_le_length (by rw [List.length_drop]; omega)]
   exact ih (fun p hp => h p (by omega)) (by omega)
theorem cut_blk (N P S : Nat) (s : St) (h : ∀ b, b < N → ∀ p, p < P → (pgs s b p).length = S) (b : Nat) (hb : b < N) : cut (P * S) (img N P s) b = jnd P (pgs s b) :=
 cut_of_jnd N (P * S) (fun b => jnd P (pgs s b)) (fun b hb => jnd_len P S _ (h b hb)) b hb
theorem cut_cut (P S : Nat) (l : List Int) (b p : Nat) (hp : p < P) : cut S l (b * P + p) = cut S (cut (P * S) l b) p := by
 unfold cut
 have hm := Nat.mul_le_mul_right S (show p + 1 ≤ P by omega)
 rw [Nat.succ_mul] at hm
 rw [List.drop_take, List.drop_drop, List.take_take, Nat.min_eq_left (by omega)]
 congr 2
 rw [Nat.add_mul, Nat.mul_assoc]
theorem cut_page (N P S : Nat) (s : St) (h : ∀ b, b < N → ∀ p, p < P → (pgs s b p).length = S) (b p : Nat) (hb : b < N) (hp : p < P) : cut S (img N P s) (b * P + p) = pgs s b p := by
 rw [cut_cut P S _ b p hp, cut_blk N P S s h b hb, cut_of_jnd P S _ (h b hb) p hp]
theorem laid_right (A B : List Int) (o : Nat) (y : List Int) : laid (A ++ B) (A.length + o) y = A ++ laid B o y := by
 unfold laid
 rw [List.take_length_add_append, Nat.add_assoc, List.drop_length_add_append]
 simp only [List.append_assoc]
theorem laid_left (A B : List Int) (o : Nat) (y : List Int) (h : o + y.length ≤ A.length) : laid (A ++ B) o y = laid A o y ++ B := by
 unfold laid
 rw [List.take_append_of_le_length (by omega), List.drop_append_of_le_length h]
 simp only [List.append_assoc]
theorem laid_jnd (S o : Nat) (y : List Int) (p : Nat) (f : Nat → List Int) : ∀ P, (∀ p, p < P → (f p).length = S) → p < P → o + y.length ≤ S → laid (jnd P f) (p * S + o) y = jnd P (at1 f p (laid (f p) o y))
 | 0, _, hp, _ => by omega
 | P + 1, h, hp, hy => by
  have hl := jnd_len P S f (fun p hp => h p (by omega))
  rw [jnd_succ, jnd_succ]
  by_cases e : p = P
  ·subst e
   rw [← hl, laid_right, at1_same, jnd_congr (fun q hq => (at1_other f p _ q (by omega)).symm)]
  ·have hm := Nat.mul_le_mul_right S (show p + 1 ≤ P by omega)
   rw [Nat.succ_mul] at hm
   rw [laid_left _ _ _ _ (by omega), laid_jnd S o y p f P (fun p hp => h p (by omega)) (by omega) hy, at1_other f p _ P (Ne.symm e)]
theorem laid_whole (xs y : List Int) (h : y.length = xs.length) : laid xs 0 y = y := by
 unfold laid
 rw [List.take_zero, List.nil_append, Nat.zero_add, List.drop_eq_nil_of_le (by omega), List.append_nil]
theorem laid_page (N P S : Nat) (s : St) (h : ∀ b, b < N → ∀ p, p < P → (pgs s b p).length = S) (b p o : Nat) (hb : b < N) (hp : p < P) (y : List Int) (hy : o + y.length ≤ S) : laid (img N P s) ((b * P + p) * S + o) y = jnd N fun k => jnd P fun j => at2 (pgs s) b p (laid (pgs s b p) o y) k j := by
 have hm := Nat.mul_le_mul_right S (show p + 1 ≤ P by omega)
 rw [Nat.succ_mul] at hm
 rw [Nat.add_mul, Nat.mul_assoc, Nat.add_assoc]
 refine (laid_jnd (P * S) (p * S + o) y b (fun b => jnd P (pgs s b)) N (fun b hb => jnd_len P S _ (h b hb)) hb (by omega)).trans ?_
 refine jnd_congr fun k hk => ?_
 by_cases e : k = b
 ·subst e
  rw [at1_same, laid_jnd S o y p (pgs s k) P (h k hk) hp hy]
  refine jnd_congr fun j hj => ?_
  by_cases q : j = p
  ·subst q; rw [at1_same, at2_same]
  ·rw [at1_other _ _ _ _ q]; exact (if_neg (fun z => q z.2)).symm
 ·rw [at1_other _ _ _ _ e]
  exact jnd_congr fun j hj => (if_neg (fun z => e z.1)).symm
theorem laid_blk (N P S : Nat) (s : St) (h : ∀ b, b < N → ∀ p, p < P → (pgs s b p).length = S) (b : Nat) (hb : b < N) (f : Nat → List Int) (hf : ∀ p, p < P → (f p).length = S) : laid (img N P s) (b * (P * S)) (jnd P f) = jnd N fun k => jnd P fun p => if k = b then f p else pgs s k p := by
 have hj := jnd_len P S f hf
 have z := laid_jnd (P * S) 0 (jnd P f) b (fun b => jnd P (pgs s b)) N (fun b hb => jnd_len P S _ (h b hb)) hb (by omega)
 rw [Nat.add_zero] at z
 refine z.trans (jnd_congr fun k hk => ?_)
 by_cases e : k = b
 ·subst e
  rw [at1_same, laid_whole _ _ (by rw [hj, jnd_len P S _ (h k hk)])]
  exact jnd_congr fun p hp => (if_pos rfl).symm
 ·rw [at1_other _ _ _ _ e]
  exact jnd_congr fun p hp => (if_neg e).symm
def raw (N P : Nat) (s : St) (l : List Opn) : Raw := mkX (img N P s) (fun b => (List.range P).map (usd s b)) (ers s) (scr s) (!off s) l
theorem raw_i (N P : Nat) (s : St) (l : List Opn) : xi (raw N P s l) = img N P s := rfl
theorem raw_t (N P : Nat) (s : St) (l : List Opn) : xt (raw N P s l) = l := rfl
theorem raw_o (N P : Nat) (s : St) (l : List Opn) : xo (raw N P s l) = !off s := rfl
theorem raw_p (N P : Nat) (s : St) (l : List Opn) (b p : Nat) (hp : p < P) : gb (xp (raw N P s l) b) p = usd s b p := by
 simp [gb, List.getD, raw, xp, mkX, hp]
theorem raw_plen (N P : Nat) (s : St) (l : List Opn) (b : Nat) : (xp (raw N P s l) b).length = P := by simp [raw, xp, mkX]
theorem wf_len {N P S : Nat} {s : St} (h : Wf N P S s) : ∀ b, b < N → ∀ p, p < P → (pgs s b p).length = S := fun b hb p hp => ((h b hb).1 p hp).1
theorem map_set (P : Nat) (f : Nat → Int) (p : Nat) (x : Int) (hp : p < P) : ((List.range P).map f).set p x = (List.range P).map (at1 f p x) := by
 apply List.ext_getElem?
 intro i
 rw [List.getElem?_set]
 by_cases e : p = i
 ·subst e
  simp [at1, hp]
 ·rw [if_neg e]
  by_cases hi : i < P
  ·simp [hi, at1, Ne.symm e]
  ·simp [hi]
theorem raw_pdo {N P S : Nat} {s : St} (h : Wf N P S s) (pl : Pln) (b p : Nat) (hb : b < N) (hp : p < P) (d : List Int) (l l' : List Opn) (hl : l.length = ops s) :
  mkX (laid (xi (raw N P s l)) ((b * P + p) * S) (pgm S (pl (xt (raw N P s l)).length) (cut S (xi (raw N P s l)) (b * P + p)) d)) (at1 (xp (raw N P s l)) b ((xp (raw N P s l) b).set p (gb (xp (raw N P s l) b) p + 1))) (xe (raw N P s l)) (xs (raw N P s l)) (!crs (pl (xt (raw N P s l)).length)) l' = raw N P (pdo S pl s b p d) l' := by
 have hg := ((h b hb).1 p hp)
 have e1 : laid (img N P s) ((b * P + p) * S) (pgm S (pl (ops s)) (pgs s b p) d) = img N P (pdo S pl s b p d) := by
  have z := laid_page N P S s (wf_len h) b p 0 hb hp (pgm S (pl (ops s)) (pgs s b p) d) (by rw [(pgm_wf S _ hg.2.1 hg.1).1]; omega)
  rw [Nat.add_zero, laid_whole _ _ (by rw [(pgm_wf S _ hg.2.1 hg.1).1, hg.1])] at z
  exact z
 have e2 : at1 (fun b => (List.range P).map (usd s b)) b (((List.range P).map (usd s b)).set p (usd s b p + 1)) = fun k => (List.range P).map (usd (pdo S pl s b p d) k) := by
  funext k
  by_cases e : k = b
  ·subst e
   rw [at1_same, map_set P _ p _ hp]
   refine List.map_congr_left fun j _ => ?_
   by_cases q : j = p
   ·subst q; rw [at1_same]; exact (at2_same (usd s) k j _).symm
   ·rw [at1_other _ _ _ _ q]; exact (if_neg (fun z => q z.2)).symm
  ·rw [at1_other _ _ _ _ e]
   exact List.map_congr_left fun j _ => (if_neg (fun z => e z.1)).symm
 rw [raw_i, raw_t, hl, cut_page N P S s (wf_len h) b p hb hp, e1, raw_p N P s l b p hp]
 show mkX _ (at1 (fun b => (List.range P).map (usd s b)) b (((List.range P).map (usd s b)).set p (usd s b p + 1))) _ _ _ _ = _
 rw [e2]
 rfl
theorem jnd_rep (P S : Nat) (x : Int) : jnd P (fun _ => List.replicate S x) = List.replicate (P * S) x := by
 induction P with
 | zero => simp [jnd]
 | succ P ih => rw [jnd_succ, ih, Nat.succ_mul, List.replicate_append_replicate]
theorem scn_len (P S : Nat) (o : Option (Bool × List Int)) (f : Nat → List Int) (p : Nat) (hp : p < P) : (scn P S o f p).length = S := by
 unfold scn
 split
 ·simp
 ·exact cut_len S _ P p (ofb_len _ _) hp
theorem ern_len (P S : Nat) (o : Option (Bool × List Int)) (f : Nat → List Int) (p : Nat) (hp : p < P) : (ern P S o f p).length = S := by
 unfold ern
 split
 ·simp
 ·exact cut_len S _ P p (ofb_len _ _) hp
theorem scn_jnd (P S : Nat) (o : Option (Bool × List Int)) (f : Nat → List Int) : jnd P (scn P S o f) = (fun o : Option (Bool × List Int) => match o with | none => List.replicate (P * S) 0 | some (_, m) => ofb (P * S) (torn (jnd P f) (List.replicate (P * S) 0) m)) o := by
 cases o with
 | none => exact jnd_rep P S 0
 | some x => exact jnd_cut P S _ (ofb_len _ _)
theorem ern_jnd (P S : Nat) (o : Option (Bool × List Int)) (f : Nat → List Int) : jnd P (ern P S o f) = (fun o : Option (Bool × List Int) => match o with | none => List.replicate (P * S) 255 | some (_, m) => ofb (P * S) (erased (jnd P f) m)) o := by
 cases o with
 | none => exact jnd_rep P S 255
 | some x => exact jnd_cut P S _ (ofb_len _ _)
theorem raw_sdo {N P S : Nat} {s : St} (h : Wf N P S s) (pl : Pln) (b : Nat) (hb : b < N) (l l' : List Opn) (hl : l.length = ops s) :
  mkX (laid (xi (raw N P s l)) (b * (P * S)) ((fun o : Option (Bool × List Int) => match o with | none => List.replicate (P * S) 0 | some (_, m) => ofb (P * S) (torn (cut (P * S) (xi (raw N P s l)) b) (List.replicate (P * S) 0) m)) (pl (xt (raw N P s l)).length))) (xp (raw N P s l)) (xe (raw N P s l)) (at1 (xs (raw N P s l)) b true) (!crs (pl (xt (raw N P s l)).length)) l' = raw N P (sdo P S pl s b) l' := by
 rw [raw_i, raw_t, hl, cut_blk N P S s (wf_len h) b hb, ← scn_jnd P S (pl (ops s)) (pgs s b), laid_blk N P S s (wf_len h) b hb _ (fun p hp => scn_len P S _ _ p hp)]
 rfl
theorem raw_edo_none {N P S : Nat} {s : St} (h : Wf N P S s) (pl : Pln) (b : Nat) (hb : b < N) (l l' : List Opn) (hn : pl (ops s) = none) :
  mkX (laid (xi (raw N P s l)) (b * (P * S)) ((fun o : Option (Bool × List Int) => match o with | none => List.replicate (P * S) 255 | some (_, m) => ofb (P * S) (erased (cut (P * S) (xi (raw N P s l)) b) m)) none)) (at1 (xp (raw N P s l)) b (List.replicate P 0)) (at1 (xe (raw N P s l)) b (xe (raw N P s l) b + 1)) (at1 (xs (raw N P s l)) b false) (!crs none) l' = raw N P (edo P S pl s b) l' := by
 have e2 : at1 (fun b => (List.range P).map (usd s b)) b (List.replicate P 0) = fun k => (List.range P).map (usd (edo P S pl s b) k) := by
  funext k
  by_cases e : k = b
  ·subst e
   rw [at1_same]
   refine List.ext_getElem (by simp) fun i h1 h2 => ?_
   have : usd (edo P S pl s k) k i = 0 := if_pos ⟨rfl, by rw [hn]; rfl⟩
   simp [this]
  ·rw [at1_other _ _ _ _ e]
   exact List.map_congr_left fun j _ => (if_neg (fun z => e z.1)).symm
 have e3 : at1 (scr s) b false = scr (edo P S pl s b) := by
  funext k
  by_cases e : k = b
  ·subst e; rw [at1_same]; exact (if_pos ⟨rfl, by rw [hn]; rfl⟩).symm
  ·rw [at1_other _ _ _ _ e]; exact (if_neg (fun z => e z.1)).symm
 have e4 : crs none = off (edo P S pl s b) := by show _ = crs (pl (ops s)); rw [hn]
 rw [raw_i, cut_blk N P S s (wf_len h) b hb, ← ern_jnd P S none (pgs s b), laid_blk N P S s (wf_len h) b hb _ (fun p hp => ern_len P S _ _ p hp)]
 have e5 : img N P (edo P S pl s b) = jnd N fun k => jnd P fun p => if k = b then ern P S none (pgs s b) p else pgs s k p := by
  show (jnd N fun k => jnd P fun p => if k = b then ern P S (pl (ops s)) (pgs s b) p else pgs s k p) = _
  rw [hn]
 rw [← e5, e4]
 show mkX _ (at1 (fun b => (List.range P).map (usd s b)) b (List.replicate P 0)) _ (at1 (scr s) b false) _ _ = _
 rw [e2, e3]
 rfl
theorem raw_edo_some {N P S : Nat} {s : St} (h : Wf N P S s) (pl : Pln) (b : Nat) (hb : b < N) (l l' : List Opn) (cr : Bool) (mm : List Int) (hn : pl (ops s) = some (cr, mm)) :
  mkX (laid (xi (raw N P s l)) (b * (P * S)) ((fun o : Option (Bool × List Int) => match o with | none => List.replicate (P * S) 255 | some (_, m) => ofb (P * S) (erased (cut (P * S) (xi (raw N P s l)) b) m)) (some (cr, mm)))) (xp (raw N P s l)) (at1 (xe (raw N P s l)) b (xe (raw N P s l) b + 1)) (xs (raw N P s l)) (!crs (some (cr, mm))) l' = raw N P (edo P S pl s b) l' := by
 have hi : ¬ ((pl (ops s)).isNone = true) := by rw [hn]; simp
 have e2 : (fun b => (List.range P).map (usd s b)) = fun k => (List.range P).map (usd (edo P S pl s b) k) := by
  funext k
  exact List.map_congr_left fun j _ => (if_neg (fun z => hi z.2)).symm
 have e3 : scr s = scr (edo P S pl s b) := by
  funext k
  exact (if_neg (fun z => hi z.2)).symm
 have e4 : crs (some (cr, mm)) = off (edo P S pl s b) := by show _ = crs (pl (ops s)); rw [hn]
 rw [raw_i, cut_blk N P S s (wf_len h) b hb, ← ern_jnd P S (some (cr, mm)) (pgs s b), laid_blk N P S s (wf_len h) b hb _ (fun p hp => ern_len P S _ _ p hp)]
 have e5 : img N P (edo P S pl s b) = jnd N fun k => jnd P fun p => if k = b then ern P S (some (cr, mm)) (pgs s b) p else pgs s k p := by
  show (jnd N fun k => jnd P fun p => if k = b then ern P S (pl (ops s)) (pgs s b) p else pgs s k p) = _
  rw [hn]
 rw [← e5, e4]
 show mkX _ (fun b => (List.range P).map (usd s b)) _ (scr s) _ _ = _
 rw [e2, e3]
 rfl
theorem set_laid (xs : List Int) (o : Nat) (x : Int) (h : o < xs.length) : xs.set o x = laid xs o [x] := by
 unfold laid
 rw [List.set_eq_take_append_cons_drop, if_pos h]
 simp
theorem raw_kdo {N P S : Nat} {s : St} (h : Wf N P S s) (b p k : Nat) (hb : b < N) (hp : p < P) (hk : k < S) (x : Int) (l : List Opn) :
  mkX ((xi (raw N P s l)).set ((b * P + p) * S + k) x) (xp (raw N P s l)) (xe (raw N P s l)) (xs (raw N P s l)) (xo (raw N P s l)) (xt (raw N P s l)) = raw N P (kdo s b p k x) l := by
 have hg := ((h b hb).1 p hp)
 have hlen := img_len h
 have h1 : (b * P + p) * S + S ≤ N * (P * S) := by
  have a1 := Nat.mul_le_mul_right (P * S) (show b + 1 ≤ N by omega)
  have a2 := Nat.mul_le_mul_right S (show p + 1 ≤ P by omega)
  rw [Nat.succ_mul] at a1 a2
  rw [Nat.add_mul, Nat.mul_assoc]
  omega
 rw [raw_i, set_laid _ _ _ (by omega), laid_page N P S s (wf_len h) b p k hb hp [x] (by simp; omega), ← set_laid _ _ _ (by omega)]
 rfl
def Lsp (N P : Nat) (s : St) : Prop := ∀ b, b < N → (∀ p, p < P → 0 < usd s b p → (p : Int) ≤ lsp s b) ∧ (0 ≤ lsp s b → ∃ p, p < P ∧ lsp s b = p ∧ 0 < usd s b p)
theorem lsp_new (N P S : Nat) : Lsp N P (new S) := fun b _ => ⟨fun p _ h => by have : (0 : Int) < 0 := h; omega, fun h => by have : (0 : Int) ≤ -1 := h; omega⟩
theorem lsp_pdo {N P S : Nat} {s : St} (hw : Wf N P S s) (h : Lsp N P s) (pl : Pln) (b p : Nat) (hp : p < P) (d : List Int) : Lsp N P (pdo S pl s b p d) := fun k hk => by
 have e1 : ∀ q, usd (pdo S pl s b p d) k q = at2 (usd s) b p (usd s b p + 1) k q := fun _ => rfl
 have e2 : lsp (pdo S pl s b p d) k = at1 (lsp s) b (max (lsp s b) p) k := rfl
 by_cases e : k = b
 ·subst e
  have hu := ((hw k hk).1 p hp).2.2.1
  rw [e2, at1_same]
  refine ⟨fun q hq h0 => ?_, fun h0 => ?_⟩
  ·by_cases z : q = p
   ·subst z; omega
   ·rw [e1, show at2 (usd s) k p (usd s k p + 1) k q = usd s k q from if_neg (fun c => z c.2)] at h0
    have := (h k hk).1 q hq h0
    omega
  ·by_cases z : lsp s k ≤ (p : Int)
   ·exact ⟨p, hp, by omega, by rw [e1, at2_same]; omega⟩
   ·obtain ⟨q, q1, q2, q3⟩ := (h k hk).2 (by omega)
    refine ⟨q, q1, by omega, ?_⟩
    by_cases y : q = p
    ·subst y; omega
    ·rw [e1, show at2 (usd s) k p (usd s k p + 1) k q = usd s k q from if_neg (fun c => y c.2)]
     exact q3
 ·rw [e2, at1_other _ _ _ _ e]
  have e3 : ∀ q, usd (pdo S pl s b p d) k q = usd s k q := fun q => if_neg (fun c => e c.1)
  exact ⟨fun q hq h0 => (h k hk).1 q hq (by rw [← e3 q]; exact h0), fun h0 => by
   obtain ⟨q, q1, q2, q3⟩ := (h k hk).2 h0
   exact ⟨q, q1, q2, by rw [e3 q]; exact q3⟩⟩
theorem lsp_edo {N P S : Nat} {s : St} (h : Lsp N P s) (pl : Pln) (b : Nat) : Lsp N P (edo P S pl s b) := fun k hk => by
 by_cases e : k = b ∧ (pl (ops s)).isNone = true
 ·have e1 : ∀ q, usd (edo P S pl s b) k q = 0 := fun q => if_pos e
  have e2 : lsp (edo P S pl s b) k = -1 := if_pos e
  exact ⟨fun q _ h0 => by rw [e1 q] at h0; omega, fun h0 => by rw [e2] at h0; omega⟩
 ·have e1 : ∀ q, usd (edo P S pl s b) k q = usd s k q := fun q => if_neg e
  have e2 : lsp (edo P S pl s b) k = lsp s k := if_neg e
  rw [e2]
  exact ⟨fun q hq h0 => (h k hk).1 q hq (by rw [← e1 q]; exact h0), fun h0 => by
   obtain ⟨q, q1, q2, q3⟩ := (h k hk).2 h0
   exact ⟨q, q1, q2, by rw [e1 q]; exact q3⟩⟩
theorem lsp_sdo {N P S : Nat} {s : St} (h : Lsp N P s) (pl : Pln) (b : Nat) : Lsp N P (sdo P S pl s b) := h
theorem lsp_kdo {N P : Nat} {s : St} (h : Lsp N P s) (b p a : Nat) (x : Int) : Lsp N P (kdo s b p a x) := h
theorem lsp_pwr {N P : Nat} {s : St} (h : Lsp N P s) (on : Bool) : Lsp N P (pwr s on) := h
theorem bhd_lsp {N P : Nat} {s : St} (h : Lsp N P s) (l : List Opn) (b p : Nat) (hb : b < N) : Bhd (xp (raw N P s l) b) p ↔ (p : Int) ≤ lsp s b := by
 constructor
 ·rintro ⟨i, h1, h2, h3⟩
  rw [raw_plen] at h2
  rw [raw_p N P s l b i h2] at h3
  have := (h b hb).1 i h2 h3
  omega
 ·intro h0
  obtain ⟨q, q1, q2, q3⟩ := (h b hb).2 (by omega)
  exact ⟨q, by omega, by rw [raw_plen]; exact q1, by rw [raw_p N P s l b q q1]; exact q3⟩
theorem geo6 {g : List Int} {N P S : Nat} (h : Shp g N P S) : ∃ g2 g3 g4 g5, g = [(N : Int), P, g2, g3, g4, g5] := by
 obtain ⟨h0, -, h1, h2, -⟩ := h
 match g, h0 with
 | [a, b, c, d, e, f], _ =>
  have e1 : a = (N : Int) := h1
  have e2 : b = (P : Int) := h2
  subst e1; subst e2
  exact ⟨c, d, e, f, rfl⟩
theorem pla_form {w : World} {pv : Value} {pl : Pln} (h : Pla w pv pl) : ∃ po pn pc, pv = .slice po pn pc := by
 obtain ⟨fs, ms, ⟨ao, cap, rfl, -⟩, -⟩ := h
 exact ⟨_, _, _, rfl⟩
theorem ref_open {w : World} {v : Value} {g : List Int} {N P : Nat} {pl : Pln} {s : St} (h : Ref w v g N P pl s) : ∃ bq bc po pn pc gv uv, v = .agg (chr g (.slice bq N bc) (.slice po pn pc) (off s) (ops s)).toArray ∧ Rws w (.slice bq N bc) 5 (bks N gv uv (lsp s) (scr s) (ers s)) ∧ (∀ b, b < N → Blk w (gv b) (uv b) P (pgs s b) (usd s b)) ∧ Pla w (.slice po pn pc) pl := by
 obtain ⟨bv, pv, gv, uv, rfl, h1, h2, h3⟩ := h
 obtain ⟨bq, bc, rfl⟩ := rws_form h1 (bks_len N _ _ _ _ _)
 obtain ⟨po, pn, pc, rfl⟩ := pla_form h3
 exact ⟨bq, bc, po, pn, pc, gv, uv, rfl, h1, h2, h3⟩
theorem ref_put {M : Nat → Bool} {w w' : World} {g : List Int} {N P : Nat} {pl : Pln} {s s' : St} {gv uv : Nat → Value} {pv gw uw : Value} {r rc b : Nat} {L : Nat → Int} {C : Nat → Bool} {E : Nat → Int} {o : Bool} {n : Int}
  (hM : Mlt M w) (hB : ∀ k, k < N → Blk (hid M w) (gv k) (uv k) P (pgs s k) (usd s k)) (hP : Pla (hid M w) pv pl) (hw : Below w.heap.size w w') (hO : OwR w.heap.size w' (.slice (some ⟨r, 0, none⟩) N rc) 50 5 (bks N (at1 gv b gw) (at1 uv b uw) L C E))
  (hN : Blk (hid M w') gw uw P (pgs s' b) (usd s' b)) (eL : ∀ k, k < N → L k = lsp s' k) (eC : ∀ k, k < N → C k = scr s' k) (eE : ∀ k, k < N → E k = ers s' k) (eP : ∀ k, k < N → k ≠ b → ∀ p, p < P → pgs s k p = pgs s' k p) (eU : ∀ k, k < N → k ≠ b → ∀ p, p < P → usd s k p = usd s' k p) (eo : o = off s') (en : n = (ops s' : Int)) :
  Ref (hid M w') (.agg (chr g (.slice (some ⟨r, 0, none⟩) N rc) pv o n).toArray) g N P pl s' := by
 subst eo
 subst en
 have hb := below_hid (M := M) hw
 refine ⟨_, pv, at1 gv b gw, at1 uv b uw, rfl, ?_, fun k hk => ?_, hP.below hb⟩
 ·have z := owr_hid (M := M) hO hM
  rw [bks_congr (fun _ _ => rfl) (fun _ _ => rfl) eL eC eE] at z
  exact z
 ·by_cases e : k = b
  ·subst e
   rw [at1_same, at1_same]; exact hN
  ·rw [at1_other _ _ _ _ e, at1_other _ _ _ _ e]
   exact ((hB k hk).below hb).congr (eP k hk e) (eU k hk e)
theorem prt_byt {M : Nat → Bool} {B : Nat} {w : World} {rr P S cap p : Nat} {T : List Int} (h : Own B w (.slice (some ⟨rr, 0, none⟩) (P * S) cap) T) (hM : ∀ k, M k = true → k < B) (hT : T.length = P * S) (ha : AllB T) (hp : p < P) (hc : P * S ≤ cap) (hS : 0 < S) : Byt (hid M w) (prtv rr 0 S cap p) (cut S T p) := by
 have hb := own_hid h ha hM
 have hm := Nat.mul_le_mul_right S (show p + 1 ≤ P by omega)
 rw [Nat.succ_mul] at hm
 obtain ⟨ao, cap', e, h1, h2, h3, h4, h5⟩ := hb
 injection e with e1 e2 e3
 subst e1
 subst e3
 obtain ⟨b, off, e4, hcell⟩ := h5 (by omega)
 cases e4
 have hl := cut_len S T P p hT hp
 refine ⟨some ⟨rr, 0 + p * S, none⟩, cap - p * S, by rw [hl]; rfl, by omega, by omega, cut_all S T p ha, (by intro q; cases q), fun _ => ⟨rr, 0 + p * S, rfl, fun t ht => ?_⟩⟩
 rw [hl] at ht
 rw [cut_gb S T p t ht]
 have := hcell (p * S + t) (by omega)
 rw [show 0 + p * S + t = 0 + (p * S + t) by omega]
 exact this
section
variable {M : Nat → Bool} {w : World} {v : Value} {g : List Int} {N P S : Nat} {pl : Pln} {s : St}
theorem rprog_no (hs : Shp g N P S) (hR : Ref (hid M w) v g N P pl s) (b p : Int) (vb : Value) (ys : List Int) (hy : Byt w vb ys) (x : Int) (hx : pno N P S s b p ys = some x) :
  Calls Try.prog 41 #[v, .agg (ints .i64 [b, p]), vb] w fun e w' => e = .returned (.tuple #[v, .int .i64 x]) ∧ Below w.heap.size w w' := by
 obtain ⟨g2, g3, g4, g5, rfl⟩ := geo6 hs
 obtain ⟨bq, bc, po, pn, pc, gv, uv, rfl, h1, h2, h3⟩ := ref_open hR
 obtain ⟨vq, vc, rfl, -⟩ := hy
 unfold pno at hx
 cases ho : off s with
 | true =>
  rw [if_pos ho] at hx
  cases hx
  exact rpg_off N P g2 g3 g4 g5 bq bc po pn pc _ b p _ w
 | false =>
  rw [if_neg (by rw [ho]; simp)] at hx
  by_cases hg : 0 ≤ b ∧ b < N ∧ 0 ≤ p ∧ p < P ∧ ys.length = S
  ·rw [if_neg (by simpa using hg)] at hx
   obtain ⟨q1, q2, q3, q4, q5⟩ := hg
   obtain ⟨b', rfl⟩ : ∃ b' : Nat, b = b' := ⟨b.toNat, by omega⟩
   obtain ⟨p', rfl⟩ : ∃ p' : Nat, p = p' := ⟨p.toNat, by omega⟩
   simp only [Int.toNat_natCast] at hx
   have hb' : b' < N := by omega
   have hp' : p' < P := by omega
   rw [q5]
   cases hs7 : scr s b' with
   | true =>
    rw [if_pos (.inl hs7)] at hx
    cases hx
    exact rpg_scr N P g2 g3 g4 g5 bq bc po pn pc S hs (ops s) b' p' hb' hp' gv uv _ _ _ _ _ vq vc w (hid_rws h1) (fun k hk => hid_blk (h2 k hk)) hs7
   | false =>
    by_cases hu : 2 ≤ usd s b' p'
    ·rw [if_pos (.inr hu)] at hx
     cases hx
     exact rpg_twc N P g2 g3 g4 g5 bq bc po pn pc S hs (ops s) b' p' hb' hp' gv uv _ _ _ _ _ vq vc w (hid_rws h1) (fun k hk => hid_blk (h2 k hk)) hs7 hu
    ·rw [if_neg (by rw [hs7]; simp; omega)] at hx
     by_cases h6 : usd s b' p' = 0 ∧ (p' : Int) ≤ lsp s b'
     ·rw [if_pos h6] at hx
      cases hx
      exact rpg_ord N P g2 g3 g4 g5 bq bc po pn pc S hs (ops s) b' p' hb' hp' gv uv _ _ _ _ _ vq vc w (hid_rws h1) (fun k hk => hid_blk (h2 k hk)) hs7 h6.1 h6.2
     ·rw [if_neg h6] at hx
      cases hx
  ·rw [if_pos (by simpa using hg)] at hx
   cases hx
   exact rpg_no N P g2 g3 g4 g5 bq bc po pn pc _ b p S hs vq ys.length vc hg w
theorem blk_prog {w' : World} {gw uw nv : Value} {p : Nat} {us : Nat → Int} {xv : Nat → Value} {pg pg' : Nat → List Int} {us' : Nat → Int} {new : List Int} (hM : Mlt M w) (hw : Below w.heap.size w w') (hG : OwR w.heap.size w' gw 53 1 (pgc P (at1 xv p nv))) (hN : Own w.heap.size w' nv new) (ha : AllB new) (hU : OwR w.heap.size w' uw 3 1 (usc P us')) (hX : ∀ j, j < P → Byt (hid M w) (xv j) (pg j)) (e1 : pg' p = new) (e2 : ∀ j, j < P → j ≠ p → pg j = pg' j) (e3 : ∀ j, j < P → us' j = us j) : Blk (hid M w') gw uw P pg' us := by
 refine ⟨⟨at1 xv p nv, owr_hid hG hM, fun j hj => ?_⟩, ?_⟩
 ·by_cases e : j = p
  ·subst e
   rw [at1_same, e1]; exact own_hid hN ha hM
  ·rw [at1_other _ _ _ _ e, ← e2 j hj e]
   exact (hX j hj).below (below_hid hw)
 ·have z := owr_hid (M := M) hU hM
  rw [usc_congr e3] at z
  exact z
theorem rprog_do (hs : Shp g N P S) (hM : Mlt M w) (hW : Wf N P S s) (hR : Ref (hid M w) v g N P pl s) (hn : ops s ≤ 1000000) (b p : Nat) (vb : Value) (ys : List Int) (hy : Byt w vb ys) (hx : pno N P S s b p ys = none) :
  Calls Try.prog 41 #[v, .agg (ints .i64 [(b : Int), (p : Int)]), vb] w fun e w' => ∃ v', e = .returned (.tuple #[v', .int .i64 (ans (pl (ops s)))]) ∧ Ref (hid M w') v' g N P pl (pdo S pl s b p ys) ∧ Below w.heap.size w w' := by
 obtain ⟨g2, g3, g4, g5, rfl⟩ := geo6 hs
 obtain ⟨bq, bc, po, pn, pc, gv, uv, rfl, h1, h2, h3⟩ := ref_open hR
 obtain ⟨q0, ⟨q1, q2, q3, q4, q5⟩, q6, q7, q8⟩ := pno_none hx
 simp only [Int.toNat_natCast] at q6 q7 q8
 have hb : b < N := by omega
 have hp : p < P := by omega
 have hwf := (hW b hb).1
 obtain ⟨⟨xv, x1, x2⟩, x3⟩ := h2 b hb
 have hxb : ∀ j, j < P → Byt w (xv j) (pgs s b j) ∧ (pgs s b j).length = S := fun j hj => ⟨hid_byt (x2 j hj), (hwf j hj).1⟩
 have ho1 : ∀ k, k < N → (gv k).oneCell' = true ∧ (uv k).oneCell' = true := fun k hk => (h2 k hk).one
 have hyb := hy
 obtain ⟨vq, vc, rfl, -⟩ := hy
 rw [q5] at hyb ⊢
 rw [q0]
 have hu0 := (hwf p hp).2.2.1
 have key : ∀ (c : Bool) (cc : Int) (new : List Int), crs (pl (ops s)) = c → ans (pl (ops s)) = cc → new = pgm S (pl (ops s)) (pgs s b p) ys →
   Calls Try.prog 41 #[.agg (chr [(N : Int), P, g2, g3, g4, g5] (.slice bq N bc) (.slice po pn pc) false (ops s)).toArray, .agg (ints .i64 [(b : Int), (p : Int)]), .slice vq S vc] w (RpgD N P g2 g3 g4 g5 po pn pc (ops s) b p gv uv (lsp s) (scr s) (ers s) (usd s b) xv new c cc w) →
   Calls Try.prog 41 #[.agg (chr [(N : Int), P, g2, g3, g4, g5] (.slice bq N bc) (.slice po pn pc) false (ops s)).toArray, .agg (ints .i64 [(b : Int), (p : Int)]), .slice vq S vc] w fun e w' => ∃ v', e = .returned (.tuple #[v', .int .i64 (ans (pl (ops s)))]) ∧ Ref (hid M w') v' [(N : Int), P, g2, g3, g4, g5] N P pl (pdo S pl s b p ys) ∧ Below w.heap.size w w' := fun c cc new e1 e2 e3 hC => by
  refine hC.mono fun e w' => ?_
  rintro ⟨r, rc, gw, uw, nv, rfl, hO, hG, hN, hU, hw⟩
  subst e1
  subst e2
  have hall : AllB new := by rw [e3]; exact (pgm_wf S _ (hwf p hp).2.1 (hwf p hp).1).2
  refine ⟨_, rfl, ref_put hM h2 h3 hw hO (blk_prog hM hw hG hN hall hU x2 ?_ ?_ ?_) (fun _ _ => rfl) (fun k hk => ?_) (fun k hk => ?_) (fun k hk hne j hj => ?_) (fun k hk hne j hj => ?_) ?_ rfl, hw⟩
  ·exact (at2_same _ _ _ _).trans e3.symm
  ·exact fun j hj hne => (at2_other _ _ _ _ _ _ fun z => hne z.2).symm
  ·intro j hj
   by_cases z : j = p
   ·subst z; rw [at1_same]; exact (at2_same _ _ _ _).symm
   ·rw [at1_other _ _ _ _ z]; exact (at2_other _ _ _ _ _ _ fun y => z y.2).symm
  ·by_cases z : k = b
   ·subst z; rw [at1_same]; exact q6.symm
   ·rw [at1_other _ _ _ _ z]; rfl
  ·by_cases z : k = b
   ·subst z; rw [at1_same]; rfl
   ·rw [at1_other _ _ _ _ z]; rfl
  ·exact (at2_other _ _ _ _ _ _ fun z => hne z.1).symm
  ·exact (at2_other _ _ _ _ _ _ fun z => hne z.1).symm
  ·rfl
 have hu : usd s b p = 0 ∧ lsp s b < (p : Int) ∨ usd s b p = 1 := by
  rcases Int.lt_or_le 0 (usd s b p) with z | z
  ·exact .inr (by omega)
  ·have z0 : usd s b p = 0 := by omega
   exact .inl ⟨z0, Int.not_le.1 fun y => q8 ⟨z0, y⟩⟩
 have r1 := hid_rws h1
 have r3 := hid_pla h3
 have xr := hid_rws x1
 have ur := hid_rws x3
 match hpl : pl (ops s) with
 | none =>
  rw [hpl] at key
  rcases hu with ⟨hu, hlp⟩ | hu
  ·exact key _ _ _ rfl rfl rfl (rpg_n0 N P g2 g3 g4 g5 bq bc po pn pc S hs (ops s) b p hn hb hp gv uv _ _ _ _ _ xv vq vc ys pl w r1 ho1 xr hxb ur hyb q5 r3 q6 hpl hu hlp)
  ·exact key _ _ _ rfl rfl rfl (rpg_n1 N P g2 g3 g4 g5 bq bc po pn pc S hs (ops s) b p hn hb hp gv uv _ _ _ _ _ xv vq vc ys pl w r1 ho1 xr hxb ur hyb q5 r3 q6 hpl hu)
 | some (true, mm) =>
  rw [hpl] at key
  rcases hu with ⟨hu, hlp⟩ | hu
  ·exact key _ _ _ rfl rfl (prg_torn _ _ _ _ _) (rpg_t0 N P g2 g3 g4 g5 bq bc po pn pc S hs (ops s) b p hn hb hp gv uv _ _ _ _ _ xv vq vc ys pl w r1 ho1 xr hxb ur hyb q5 r3 q6 mm hpl hu hlp)
  ·exact key _ _ _ rfl rfl (prg_torn _ _ _ _ _) (rpg_t1 N P g2 g3 g4 g5 bq bc po pn pc S hs (ops s) b p hn hb hp gv uv _ _ _ _ _ xv vq vc ys pl w r1 ho1 xr hxb ur hyb q5 r3 q6 mm hpl hu)
 | some (false, mm) =>
  rw [hpl] at key
  rcases hu with ⟨hu, hlp⟩ | hu
  ·exact key _ _ _ rfl rfl (prg_failed _ _ _ _ _) (rpg_f0 N P g2 g3 g4 g5 bq bc po pn pc S hs (ops s) b p hn hb hp gv uv _ _ _ _ _ xv vq vc ys pl w r1 ho1 xr hxb ur hyb q5 r3 q6 mm hpl hu hlp)
  ·exact key _ _ _ rfl rfl (prg_failed _ _ _ _ _) (rpg_f1 N P g2 g3 g4 g5 bq bc po pn pc S hs (ops s) b p hn hb hp gv uv _ _ _ _ _ xv vq vc ys pl w r1 ho1 xr hxb ur hyb q5 r3 q6 mm hpl hu)
theorem rer_ref (hs : Shp g N P S) (hR : Ref (hid M w) v g N P pl s) (b : Int) (x : Int) (hx : eno N s b = some x) :
  Calls Try.prog 42 #[v, .int .i64 b] w fun e w' => e = .returned (.tuple #[v, .int .i64 x]) ∧ Below w.heap.size w w' := by
 obtain ⟨g2, g3, g4, g5, rfl⟩ := geo6 hs
 obtain ⟨bq, bc, po, pn, pc, gv, uv, rfl, h1, h2, h3⟩ := ref_open hR
 unfold eno at hx
 cases ho : off s with
 | true =>
  rw [if_pos ho] at hx
  cases hx
  exact rer_off N P g2 g3 g4 g5 bq bc po pn pc _ b w
 | false =>
  rw [if_neg (by rw [ho]; simp)] at hx
  by_cases hg : 0 ≤ b ∧ b < N
  ·rw [if_neg (by simpa using hg)] at hx; cases hx
  ·rw [if_pos hg] at hx
   cases hx
   exact rer_no N P g2 g3 g4 g5 bq bc po pn pc _ b hg w
theorem rsc_ref (hs : Shp g N P S) (hR : Ref (hid M w) v g N P pl s) (b : Int) (x : Int) (hx : eno N s b = some x) :
  Calls Try.prog 43 #[v, .int .i64 b] w fun e w' => e = .returned (.tuple #[v, .int .i64 x]) ∧ Below w.heap.size w w' := by
 obtain ⟨g2, g3, g4, g5, rfl⟩ := geo6 hs
 obtain ⟨bq, bc, po, pn, pc, gv, uv, rfl, h1, h2, h3⟩ := ref_open hR
 unfold eno at hx
 cases ho : off s with
 | true =>
  rw [if_pos ho] at hx
  cases hx
  exact rsc_off N P g2 g3 g4 g5 bq bc po pn pc _ b w
 | false =>
  rw [if_neg (by rw [ho]; simp)] at hx
  by_cases hg : 0 ≤ b ∧ b < N
  ·rw [if_neg (by simpa using hg)] at hx; cases hx
  ·rw [if_pos hg] at hx
   cases hx
   exact rsc_no N P g2 g3 g4 g5 bq bc po pn pc _ b hg w
end
theorem shp_num {g : List Int} {N P S : Nat} (h : Shp g N P S) : N ≤ 64 ∧ P ≤ 32 ∧ 0 < P ∧ S ≤ 4184 ∧ 0 < S := by
 obtain ⟨gl, hr, z0, z1, z2⟩ := h
 obtain ⟨k1, k2, k3, -⟩ := hr.1
 omega
theorem cut_rep (P S p : Nat) (x : Int) (hp : p < P) : cut S (List.replicate (P * S) x) p = List.replicate S x := by
 have hm := Nat.mul_le_mul_right S (show p + 1 ≤ P by omega)
 rw [Nat.succ_mul] at hm
 unfold cut
 rw [List.drop_replicate, List.take_replicate, Nat.min_eq_left (by omega)]
section
variable {M : Nat → Bool} {w : World} {v : Value} {g : List Int} {N P S : Nat} {pl : Pln} {s : St}
theorem blk_part {w' : World} {gw uv : Value} {rr cap : Nat} {pg' : Nat → List Int} {us : Nat → Int} {T : List Int} (hM : Mlt M w) (hw : Below w.heap.size w w') (hG : OwR w.heap.size w' gw 53 1 (pgc P (prtv rr 0 S cap))) (hN : Own w.heap.size w' (.slice (some ⟨rr, 0, none⟩) (P * S) cap) T) (hT : T.length = P * S) (ha : AllB T) (hc : P * S ≤ cap) (hS : 0 < S) (hU : Rws (hid M w) uv 1 (usc P us)) (e1 : ∀ p, p < P → cut S T p = pg' p) : Blk (hid M w') gw uv P pg' us :=
 ⟨⟨_, owr_hid hG hM, fun p hp => by rw [← e1 p hp]; exact prt_byt hN hM hT ha hp hc hS⟩, hU.below (by omega) (below_hid hw)⟩
theorem rer_do (hs : Shp g N P S) (hM : Mlt M w) (hW : Wf N P S s) (hR : Ref (hid M w) v g N P pl s) (hn : ops s ≤ 1000000) (b : Nat) (hx : eno N s b = none) :
  Calls Try.prog 42 #[v, .int .i64 (b : Int)] w fun e w' => ∃ v', e = .returned (.tuple #[v', .int .i64 (ans (pl (ops s)))]) ∧ Ref (hid M w') v' g N P pl (edo P S pl s b) ∧ Below w.heap.size w w' := by
 have hnum := shp_num hs
 obtain ⟨g2, g3, g4, g5, rfl⟩ := geo6 hs
 obtain ⟨bq, bc, po, pn, pc, gv, uv, rfl, h1, h2, h3⟩ := ref_open hR
 obtain ⟨q0, q1, q2⟩ := eno_none hx
 have hb : b < N := by omega
 have hwf := hW b hb
 rw [q0]
 match hpl : pl (ops s) with
 | none =>
  refine (rer_ok N P g2 g3 g4 g5 bq bc po pn pc S hs (ops s) b hn hb gv uv _ _ _ _ _ pl w (hid_rws h1) (fun k hk => hid_blk (h2 k hk)) (hid_pla h3) ⟨hwf.2.2.2.1, by have := hwf.2.2.2.2; omega⟩ hpl).mono fun e w' => ?_
  rintro ⟨r, rc, gw, uw, rfl, hO, hK, hw⟩
  have hi : (pl (ops s)).isNone = true := by rw [hpl]; rfl
  refine ⟨_, rfl, ref_put hM h2 h3 hw hO ((hK.hid hM fun _ _ => allB_replicate 255 S (by omega)).congr (fun p hp => ?_) (fun p hp => ?_)) (fun k hk => ?_) (fun k hk => ?_) (fun k hk => ?_) (fun k hk hne p hp => ?_) (fun k hk hne p hp => ?_) ?_ rfl, hw⟩
  ·have : pgs (edo P S pl s b) b p = ern P S (pl (ops s)) (pgs s b) p := if_pos rfl
   rw [this, hpl]; rfl
  ·exact (if_pos ⟨rfl, hi⟩).symm
  ·by_cases z : k = b
   ·subst z; rw [at1_same]; exact (if_pos ⟨rfl, hi⟩).symm
   ·rw [at1_other _ _ _ _ z]; exact (if_neg fun y => z y.1).symm
  ·by_cases z : k = b
   ·subst z; rw [at1_same]; exact (if_pos ⟨rfl, hi⟩).symm
   ·rw [at1_other _ _ _ _ z]; exact (if_neg fun y => z y.1).symm
  ·rfl
  ·exact (if_neg hne).symm
  ·exact (if_neg fun y => hne y.1).symm
  ·show false = crs (pl (ops s)); rw [hpl]; rfl
 | some (c, m) =>
  refine (rer_flt N P g2 g3 g4 g5 bq bc po pn pc S hs (ops s) b hn hb gv uv _ _ _ _ _ pl w (hid_rws h1) (fun k hk => hid_blk (h2 k hk)) (hid_pla h3) ⟨hwf.2.2.2.1, by have := hwf.2.2.2.2; omega⟩ (fun p hp => (hwf.1 p hp).1) c m hpl).mono fun e w' => ?_
  rintro ⟨r, rc, gw, rr, cap, rfl, hO, hG, hN, hc, hw⟩
  have hi : ¬ (pl (ops s)).isNone = true := by rw [hpl]; simp
  refine ⟨_, rfl, ref_put hM h2 h3 hw hO (blk_part hM hw hG hN (ofb_len _ _) (ofb_all _ _) hc hnum.2.2.2.2 ?_ (fun p hp => ?_)) (fun k hk => ?_) (fun k hk => ?_) (fun k hk => ?_) (fun k hk hne p hp => ?_) (fun k hk hne p hp => ?_) ?_ rfl, hw⟩
  ·have z := (h2 b hb).2
   rw [usc_congr (v := usd (edo P S pl s b) b) fun p _ => (if_neg fun y => hi y.2).symm] at z
   exact z
  ·have : pgs (edo P S pl s b) b p = ern P S (pl (ops s)) (pgs s b) p := if_pos rfl
   rw [this, hpl]; rfl
  ·have e1 : lsp (edo P S pl s b) k = lsp s k := if_neg fun y => hi y.2
   rw [e1]
   by_cases z : k = b
   ·subst z; rw [at1_same]
   ·rw [at1_other _ _ _ _ z]
  ·have e1 : scr (edo P S pl s b) k = scr s k := if_neg fun y => hi y.2
   rw [e1]
   by_cases z : k = b
   ·subst z; rw [at1_same]
   ·rw [at1_other _ _ _ _ z]
  ·rfl
  ·exact (if_neg hne).symm
  ·exact (if_neg fun y => hi y.2).symm
  ·show c = crs (pl (ops s)); rw [hpl]; rfl
theorem rsc_do (hs : Shp g N P S) (hM : Mlt M w) (hW : Wf N P S s) (hR : Ref (hid M w) v g N P pl s) (hn : ops s ≤ 1000000) (b : Nat) (hx : eno N s b = none) :
  Calls Try.prog 43 #[v, .int .i64 (b : Int)] w fun e w' => ∃ v', e = .returned (.tuple #[v', .int .i64 (ans (pl (ops s)))]) ∧ Ref (hid M w') v' g N P pl (sdo P S pl s b) ∧ Below w.heap.size w w' := by
 have hnum := shp_num hs
 obtain ⟨g2, g3, g4, g5, rfl⟩ := geo6 hs
 obtain ⟨bq, bc, po, pn, pc, gv, uv, rfl, h1, h2, h3⟩ := ref_open hR
 obtain ⟨q0, q1, q2⟩ := eno_none hx
 have hb : b < N := by omega
 have hwf := hW b hb
 rw [q0]
 have key : ∀ (c : Bool) (cc : Int) (T : List Int) (x : Ending) (w' : World), crs (pl (ops s)) = c → ans (pl (ops s)) = cc → T.length = P * S → AllB T → (∀ p, p < P → cut S T p = scn P S (pl (ops s)) (pgs s b) p) →
   RscI N P S g2 g3 g4 g5 po pn pc (ops s) b gv uv (lsp s) (scr s) (ers s) T c cc w x w' → ∃ v', x = .returned (.tuple #[v', .int .i64 (ans (pl (ops s)))]) ∧ Ref (hid M w') v' [(N : Int), P, g2, g3, g4, g5] N P pl (sdo P S pl s b) ∧ Below w.heap.size w w' := fun c cc T x w' e1 e2 hT ha hcut => by
  rintro ⟨r, rc, gw, rr, cap, rfl, hO, hG, hN, hc, hw⟩
  subst e1
  subst e2
  refine ⟨_, rfl, ref_put hM h2 h3 hw hO (blk_part hM hw hG hN hT ha hc hnum.2.2.2.2 (h2 b hb).2 (fun p hp => ?_)) (fun k hk => ?_) (fun k hk => rfl) (fun k hk => ?_) (fun k hk hne p hp => ?_) (fun k hk hne p hp => rfl) rfl rfl, hw⟩
  ·have : pgs (sdo P S pl s b) b p = scn P S (pl (ops s)) (pgs s b) p := if_pos rfl
   rw [this]; exact hcut p hp
  ·show at1 (lsp s) b (lsp s b) k = lsp s k
   by_cases z : k = b
   ·subst z; rw [at1_same]
   ·rw [at1_other _ _ _ _ z]
  ·show at1 (ers s) b (ers s b) k = ers s k
   by_cases z : k = b
   ·subst z; rw [at1_same]
   ·rw [at1_other _ _ _ _ z]
  ·exact (if_neg hne).symm
 match hpl : pl (ops s) with
 | none =>
  rw [hpl] at key
  refine (rsc_ok N P g2 g3 g4 g5 bq bc po pn pc S hs (ops s) b hn hb gv uv _ _ _ _ _ pl w (hid_rws h1) (fun k hk => hid_blk (h2 k hk)) (hid_pla h3) (fun p hp => (hwf.1 p hp).1) hpl).mono fun e w' => ?_
  exact key _ _ _ _ _ rfl rfl (by simp) (allB_replicate 0 _ (by omega)) fun p hp => cut_rep P S p 0 hp
 | some (c, m) =>
  rw [hpl] at key
  refine (rsc_flt N P g2 g3 g4 g5 bq bc po pn pc S hs (ops s) b hn hb gv uv _ _ _ _ _ pl w (hid_rws h1) (fun k hk => hid_blk (h2 k hk)) (hid_pla h3) (fun p hp => (hwf.1 p hp).1) c m hpl).mono fun e w' => ?_
  exact key _ _ _ _ _ rfl rfl (ofb_len _ _) (ofb_all _ _) fun p hp => by rw [prg_torn]; rfl
theorem rpk_ref (hs : Shp g N P S) (hR : Ref (hid M w) v g N P pl s) (b p a y : Int) (x : Int) (hx : kno N P S s b p a = some x) :
  Calls Try.prog 44 #[v, .agg (ints .i64 [b, p]), .int .i64 a, .int .u8 y] w fun e w' => e = .returned (.tuple #[v, .int .i64 x]) ∧ Below w.heap.size w w' := by
 obtain ⟨g2, g3, g4, g5, rfl⟩ := geo6 hs
 obtain ⟨bq, bc, po, pn, pc, gv, uv, rfl, h1, h2, h3⟩ := ref_open hR
 unfold kno at hx
 cases ho : off s with
 | false =>
  rw [if_pos (by rw [ho]; simp)] at hx
  cases hx
  exact rpk_on N P g2 g3 g4 g5 bq bc po pn pc _ b p a y w
 | true =>
  rw [if_neg (by rw [ho]; simp)] at hx
  by_cases hg : 0 ≤ b ∧ b < N ∧ 0 ≤ p ∧ p < P ∧ 0 ≤ a ∧ a < S
  ·rw [if_neg (by simpa using hg)] at hx; cases hx
  ·rw [if_pos hg] at hx
   cases hx
   exact rpk_no N P g2 g3 g4 g5 bq bc po pn pc _ b p S hs a y hg w
theorem rpk_kdo (hs : Shp g N P S) (hM : Mlt M w) (hW : Wf N P S s) (hR : Ref (hid M w) v g N P pl s) (b p a : Nat) (y : Int) (hy : 0 ≤ y ∧ y ≤ 255) (hx : kno N P S s b p a = none) :
  Calls Try.prog 44 #[v, .agg (ints .i64 [(b : Int), (p : Int)]), .int .i64 (a : Int), .int .u8 y] w fun e w' => ∃ v', e = .returned (.tuple #[v', .int .i64 0]) ∧ Ref (hid M w') v' g N P pl (kdo s b p a y) ∧ Below w.heap.size w w' := by
 obtain ⟨g2, g3, g4, g5, rfl⟩ := geo6 hs
 obtain ⟨bq, bc, po, pn, pc, gv, uv, rfl, h1, h2, h3⟩ := ref_open hR
 obtain ⟨q0, q1, q2, q3, q4, q5, q6⟩ := kno_none hx
 have hb : b < N := by omega
 have hp : p < P := by omega
 have ha : a < S := by omega
 have hwf := (hW b hb).1
 obtain ⟨⟨xv, x1, x2⟩, x3⟩ := h2 b hb
 have hxb : ∀ j, j < P → Byt w (xv j) (pgs s b j) ∧ (pgs s b j).length = S := fun j hj => ⟨hid_byt (x2 j hj), (hwf j hj).1⟩
 rw [q0]
 refine (rpk_do N P g2 g3 g4 g5 bq bc po pn pc S hs (ops s) b p a y hb hp ha gv uv _ _ _ (pgs s b) _ xv w (hid_rws h1) (fun k hk => (h2 k hk).one) (hid_rws x1) hxb (hid_rws x3)).mono fun e w' => ?_
 rintro ⟨r, rc, gw, nv, rfl, hO, hG, hN, hw⟩
 have hall : AllB ((pgs s b p).set a y) := fun i => by
  rw [gb_set1 _ _ _ _ (by rw [(hwf p hp).1]; exact ha)]
  split
  ·exact hy
  ·exact (hwf p hp).2.1 i
 refine ⟨_, rfl, ref_put hM h2 h3 hw hO ⟨⟨at1 xv p nv, owr_hid hG hM, fun j hj => ?_⟩, x3.below (by omega) (below_hid hw)⟩ (fun k hk => ?_) (fun k hk => ?_) (fun k hk => ?_) (fun k hk hne j hj => ?_) (fun k hk hne j hj => rfl) q0.symm rfl, hw⟩
 ·show Byt _ _ (at2 (pgs s) b p ((pgs s b p).set a y) b j)
  by_cases e : j = p
  ·subst e
   rw [at1_same, at2_same]; exact own_hid hN hall hM
  ·rw [at1_other _ _ _ _ e, at2_other _ _ _ _ _ _ fun z => e z.2]
   exact (x2 j hj).below (below_hid hw)
 ·show at1 (lsp s) b (lsp s b) k = lsp s k
  by_cases z : k = b
  ·subst z; rw [at1_same]
  ·rw [at1_other _ _ _ _ z]
 ·show at1 (scr s) b (scr s b) k = scr s k
  by_cases z : k = b
  ·subst z; rw [at1_same]
  ·rw [at1_other _ _ _ _ z]
 ·show at1 (ers s) b (ers s b) k = ers s k
  by_cases z : k = b
  ·subst z; rw [at1_same]
  ·rw [at1_other _ _ _ _ z]
 ·exact (at2_other _ _ _ _ _ _ fun z => hne z.1).symm
end
end Go.Proofs.Ytikcohjhhoiakaa.na
