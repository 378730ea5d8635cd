/- Parts of the proof: what KeyboxGone reaches. No claim of its own. -/
import Derived.WalkKit
import Derived.Deep.QuietTactic
import Derived.Laws.AppendOwnNone
import Derived.Deep.RegionHeld3
import Derived.Deep.WholeRow
import Derived.Deep.MidRow
import Derived.Laws.StructEq
import Derived.Deep.DeepCutAuto
import Derived.ArgAppend
import Derived.Lib.SliceRun
import Derived.WalkSmall
import Derived.ProofKit
import Derived.OpenShut
import Derived.BigQuiet
import Derived.Lib.MakeNoZero
import Derived.Test.YtakibiigcdgohaaGreatDoorD00
import Derived.Test.YtakibiigcdgohaaGreatDoorD01
import Derived.Test.YtakibiigcdgohaaGreatDoorD02
import Derived.Test.YtakibiigcdgohaaGreatDoorD03
import Derived.Test.YtakibiigcdgohaaGreatDoorD04
import Derived.Test.YtakibiigcdgohaaGreatDoorD05
import Derived.Test.YtakibiigcdgohaaGreatDoorD06
import Derived.Test.YtakibiigcdgohaaGreatDoorD07
set_option maxHeartbeats 8000000
namespace Go.Proofs.YtakibiigcdgohaaGreatDoor.na
open Go.RowKit Go.Proofs.YtakibiigcdgohaaGreatDoor.fa
set_option maxRecDepth 20000
theorem cut_of_jnd (P S : Nat) (f : Nat → List Int) (h : ∀ p, p < P → (f p).length = S) (p : Nat) (hp : p < P) : cut S (jnd P f) p = f p := by
  induction P with
  | zero => omega
  | succ P ih =>
    have hl := jnd_len P S f (fun p hp => h p (by omega))
    rw [jnd_succ]
    unfold cut at ih ⊢
    by_cases e : p = P
    · subst e
      rw [List.drop_append_of_le_length (by omega), show (jnd p f).drop (p * S) = [] from List.drop_eq_nil_of_le (by omega), List.nil_append]
      exact List.take_of_length_le (by rw [h p hp]; exact Nat.le_refl _)
    · have hm := Nat.mul_le_mul_right S (show p + 1 ≤ P by omega)
      rw [Nat.succ_mul] at hm
      rw [List.drop_append_of_le_length (by omega), List.take_append_of_le_length (by rw [List.length_drop]; omega)]
      exact ih (fun p hp => h p (by omega)) (by omega)
theorem cut_blk (N P S : Nat) (s : St) (h : ∀ b, b < N → ∀ p, p < P → (pgs s b p).length = S) (b : Nat) (hb : b < N) : cut (P * S) (img N P s) b = jnd P (pgs s b) :=
  cut_of_jnd N (P * S) (fun b => jnd P (pgs s b)) (fun b hb => jnd_len P S _ (h b hb)) b hb
theorem cut_cut (P S : Nat) (l : List Int) (b p : Nat) (hp : p < P) : cut S l (b * P + p) = cut S (cut (P * S) l b) p := by
  unfold cut
  have hm := Nat.mul_le_mul_right S (show p + 1 ≤ P by omega)
  rw [Nat.succ_mul] at hm
  rw [List.drop_take, List.drop_drop, List.take_take, Nat.min_eq_left (by omega)]
  congr 2
  rw [Nat.add_mul, Nat.mul_assoc]
theorem cut_page (N P S : Nat) (s : St) (h : ∀ b, b < N → ∀ p, p < P → (pgs s b p).length = S) (b p : Nat) (hb : b < N) (hp : p < P) : cut S (img N P s) (b * P + p) = pgs s b p := by
  rw [cut_cut P S _ b p hp, cut_blk N P S s h b hb, cut_of_jnd P S _ (h b hb) p hp]
theorem laid_right (A B : List Int) (o : Nat) (y : List Int) : laid (A ++ B) (A.length + o) y = A ++ laid B o y := by
  unfold laid
  rw [List.take_length_add_append, Nat.add_assoc, List.drop_length_add_append]
  simp only [List.append_assoc]
theorem laid_left (A B : List Int) (o : Nat) (y : List Int) (h : o + y.length ≤ A.length) : laid (A ++ B) o y = laid A o y ++ B := by
  unfold laid
  rw [List.take_append_of_le_length (by omega), List.drop_append_of_le_length h]
  simp only [List.append_assoc]
theorem laid_jnd (S o : Nat) (y : List Int) (p : Nat) (f : Nat → List Int) : ∀ P, (∀ p, p < P → (f p).length = S) → p < P → o + y.length ≤ S → laid (jnd P f) (p * S + o) y = jnd P (at1 f p (laid (f p) o y))
  | 0, _, hp, _ => by omega
  | P + 1, h, hp, hy => by
    have hl := jnd_len P S f (fun p hp => h p (by omega))
    rw [jnd_succ, jnd_succ]
    by_cases e : p = P
    · subst e
      rw [← hl, laid_right, at1_same, jnd_congr (fun q hq => (at1_other f p _ q (by omega)).symm)]
    · have hm := Nat.mul_le_mul_right S (show p + 1 ≤ P by omega)
      rw [Nat.succ_mul] at hm
      rw [laid_left _ _ _ _ (by omega), laid_jnd S o y p f P (fun p hp => h p (by omega)) (by omega) hy, at1_other f p _ P (Ne.symm e)]
theorem laid_whole (xs y : List Int) (h : y.length = xs.length) : laid xs 0 y = y := by
  unfold laid
  rw [List.take_zero, List.nil_append, Nat.zero_add, List.drop_eq_nil_of_le (by omega), List.append_nil]
theorem laid_page (N P S : Nat) (s : St) (h : ∀ b, b < N → ∀ p, p < P → (pgs s b p).length = S) (b p o : Nat) (hb : b < N) (hp : p < P) (y : List Int) (hy : o + y.length ≤ S) : laid (img N P s) ((b * P + p) * S + o) y = jnd N fun k => jnd P fun j => at2 (pgs s) b p (laid (pgs s b p) o y) k j := by
  have hm := Nat.mul_le_mul_right S (show p + 1 ≤ P by omega)
  rw [Nat.succ_mul] at hm
  rw [Nat.add_mul, Nat.mul_assoc, Nat.add_assoc]
  refine (laid_jnd (P * S) (p * S + o) y b (fun b => jnd P (pgs s b)) N (fun b hb => jnd_len P S _ (h b hb)) hb (by omega)).trans ?_
  refine jnd_congr fun k hk => ?_
  by_cases e : k = b
  · subst e
    rw [at1_same, laid_jnd S o y p (pgs s k) P (h k hk) hp hy]
    refine jnd_congr fun j hj => ?_
    by_cases q : j = p
    · subst q; rw [at1_same, at2_same]
    · rw [at1_other _ _ _ _ q]; exact (if_neg (fun z => q z.2)).symm
  · rw [at1_other _ _ _ _ e]
    exact jnd_congr fun j hj => (if_neg (fun z => e z.1)).symm
theorem laid_blk (N P S : Nat) (s : St) (h : ∀ b, b < N → ∀ p, p < P → (pgs s b p).length = S) (b : Nat) (hb : b < N) (f : Nat → List Int) (hf : ∀ p, p < P → (f p).length = S) : laid (img N P s) (b * (P * S)) (jnd P f) = jnd N fun k => jnd P fun p => if k = b then f p else pgs s k p := by
  have hj := jnd_len P S f hf
  have z := laid_jnd (P * S) 0 (jnd P f) b (fun b => jnd P (pgs s b)) N (fun b hb => jnd_len P S _ (h b hb)) hb (by omega)
  rw [Nat.add_zero] at z
  refine z.trans (jnd_congr fun k hk => ?_)
  by_cases e : k = b
  · subst e
    rw [at1_same, laid_whole _ _ (by rw [hj, jnd_len P S _ (h k hk)])]
    exact jnd_congr fun p hp => (if_pos rfl).symm
  · rw [at1_other _ _ _ _ e]
    exact jnd_congr fun p hp => (if_neg e).symm
end Go.Proofs.YtakibiigcdgohaaGreatDoor.na
namespace Go.Proofs.YtakibiigcdgohaaGreatDoor.na
open Go.RowKit Go.Proofs.YtakibiigcdgohaaGreatDoor.fa
set_option maxRecDepth 20000
def raw (N P : Nat) (s : St) (l : List Opn) : Raw := mkX (img N P s) (fun b => (List.range P).map (usd s b)) (ers s) (scr s) (!off s) l
theorem raw_i (N P : Nat) (s : St) (l : List Opn) : xi (raw N P s l) = img N P s := rfl
theorem raw_t (N P : Nat) (s : St) (l : List Opn) : xt (raw N P s l) = l := rfl
theorem raw_o (N P : Nat) (s : St) (l : List Opn) : xo (raw N P s l) = !off s := rfl
theorem raw_p (N P : Nat) (s : St) (l : List Opn) (b p : Nat) (hp : p < P) : gb (xp (raw N P s l) b) p = usd s b p := by
  simp [gb, List.getD, raw, xp, mkX, hp]
theorem raw_plen (N P : Nat) (s : St) (l : List Opn) (b : Nat) : (xp (raw N P s l) b).length = P := by simp [raw, xp, mkX]
theorem wf_len {N P S : Nat} {s : St} (h : Wf N P S s) : ∀ b, b < N → ∀ p, p < P → (pgs s b p).length = S := fun b hb p hp => ((h b hb).1 p hp).1
theorem map_set (P : Nat) (f : Nat → Int) (p : Nat) (x : Int) (hp : p < P) : ((List.range P).map f).set p x = (List.range P).map (at1 f p x) := by
  apply List.ext_getElem?
  intro i
  rw [List.getElem?_set]
  by_cases e : p = i
  · subst e
    simp [at1, hp]
  · rw [if_neg e]
    by_cases hi : i < P
    · simp [hi, at1, Ne.symm e]
    · simp [hi]
theorem raw_pdo {N P S : Nat} {s : St} (h : Wf N P S s) (pl : Pln) (b p : Nat) (hb : b < N) (hp : p < P) (d : List Int) (l l' : List Opn) (hl : l.length = ops s) :
    mkX (laid (xi (raw N P s l)) ((b * P + p) * S) (pgm S (pl (xt (raw N P s l)).length) (cut S (xi (raw N P s l)) (b * P + p)) d)) (at1 (xp (raw N P s l)) b ((xp (raw N P s l) b).set p (gb (xp (raw N P s l) b) p + 1))) (xe (raw N P s l)) (xs (raw N P s l)) (!crs (pl (xt (raw N P s l)).length)) l' = raw N P (pdo S pl s b p d) l' := by
  have hg := ((h b hb).1 p hp)
  have e1 : laid (img N P s) ((b * P + p) * S) (pgm S (pl (ops s)) (pgs s b p) d) = img N P (pdo S pl s b p d) := by
    have z := laid_page N P S s (wf_len h) b p 0 hb hp (pgm S (pl (ops s)) (pgs s b p) d) (by rw [(pgm_wf S _ hg.2.1 hg.1).1]; omega)
    rw [Nat.add_zero, laid_whole _ _ (by rw [(pgm_wf S _ hg.2.1 hg.1).1, hg.1])] at z
    exact z
  have e2 : at1 (fun b => (List.range P).map (usd s b)) b (((List.range P).map (usd s b)).set p (usd s b p + 1)) = fun k => (List.range P).map (usd (pdo S pl s b p d) k) := by
    funext k
    by_cases e : k = b
    · subst e
      rw [at1_same, map_set P _ p _ hp]
      refine List.map_congr_left fun j _ => ?_
      by_cases q : j = p
      · subst q; rw [at1_same]; exact (at2_same (usd s) k j _).symm
      · rw [at1_other _ _ _ _ q]; exact (if_neg (fun z => q z.2)).symm
    · rw [at1_other _ _ _ _ e]
      exact List.map_congr_left fun j _ => (if_neg (fun z => e z.1)).symm
  rw [raw_i, raw_t, hl, cut_page N P S s (wf_len h) b p hb hp, e1, raw_p N P s l b p hp]
  show mkX _ (at1 (fun b => (List.range P).map (usd s b)) b (((List.range P).map (usd s b)).set p (usd s b p + 1))) _ _ _ _ = _
  rw [e2]
  rfl
theorem jnd_rep (P S : Nat) (x : Int) : jnd P (fun _ => List.replicate S x) = List.replicate (P * S) x := by
  induction P with
  | zero => simp [jnd]
  | succ P ih => rw [jnd_succ, ih, Nat.succ_mul, List.replicate_append_replicate]
theorem scn_len (P S : Nat) (o : Option (Bool × List Int)) (f : Nat → List Int) (p : Nat) (hp : p < P) : (scn P S o f p).length = S := by
  unfold scn
  split
  · simp
  · exact cut_len S _ P p (ofb_len _ _) hp
theorem ern_len (P S : Nat) (o : Option (Bool × List Int)) (f : Nat → List Int) (p : Nat) (hp : p < P) : (ern P S o f p).length = S := by
  unfold ern
  split
  · simp
  · exact cut_len S _ P p (ofb_len _ _) hp
theorem scn_jnd (P S : Nat) (o : Option (Bool × List Int)) (f : Nat → List Int) : jnd P (scn P S o f) = (fun o : Option (Bool × List Int) => match o with | none => List.replicate (P * S) 0 | some (_, m) => ofb (P * S) (torn (jnd P f) (List.replicate (P * S) 0) m)) o := by
  cases o with
  | none => exact jnd_rep P S 0
  | some x => exact jnd_cut P S _ (ofb_len _ _)
theorem ern_jnd (P S : Nat) (o : Option (Bool × List Int)) (f : Nat → List Int) : jnd P (ern P S o f) = (fun o : Option (Bool × List Int) => match o with | none => List.replicate (P * S) 255 | some (_, m) => ofb (P * S) (erased (jnd P f) m)) o := by
  cases o with
  | none => exact jnd_rep P S 255
  | some x => exact jnd_cut P S _ (ofb_len _ _)
theorem raw_sdo {N P S : Nat} {s : St} (h : Wf N P S s) (pl : Pln) (b : Nat) (hb : b < N) (l l' : List Opn) (hl : l.length = ops s) :
    mkX (laid (xi (raw N P s l)) (b * (P * S)) ((fun o : Option (Bool × List Int) => match o with | none => List.replicate (P * S) 0 | some (_, m) => ofb (P * S) (torn (cut (P * S) (xi (raw N P s l)) b) (List.replicate (P * S) 0) m)) (pl (xt (raw N P s l)).length))) (xp (raw N P s l)) (xe (raw N P s l)) (at1 (xs (raw N P s l)) b true) (!crs (pl (xt (raw N P s l)).length)) l' = raw N P (sdo P S pl s b) l' := by
  rw [raw_i, raw_t, hl, cut_blk N P S s (wf_len h) b hb, ← scn_jnd P S (pl (ops s)) (pgs s b), laid_blk N P S s (wf_len h) b hb _ (fun p hp => scn_len P S _ _ p hp)]
  rfl
theorem raw_edo_none {N P S : Nat} {s : St} (h : Wf N P S s) (pl : Pln) (b : Nat) (hb : b < N) (l l' : List Opn) (hn : pl (ops s) = none) :
    mkX (laid (xi (raw N P s l)) (b * (P * S)) ((fun o : Option (Bool × List Int) => match o with | none => List.replicate (P * S) 255 | some (_, m) => ofb (P * S) (erased (cut (P * S) (xi (raw N P s l)) b) m)) none)) (at1 (xp (raw N P s l)) b (List.replicate P 0)) (at1 (xe (raw N P s l)) b (xe (raw N P s l) b + 1)) (at1 (xs (raw N P s l)) b false) (!crs none) l' = raw N P (edo P S pl s b) l' := by
  have e2 : at1 (fun b => (List.range P).map (usd s b)) b (List.replicate P 0) = fun k => (List.range P).map (usd (edo P S pl s b) k) := by
    funext k
    by_cases e : k = b
    · subst e
      rw [at1_same]
      refine List.ext_getElem (by simp) fun i h1 h2 => ?_
      have : usd (edo P S pl s k) k i = 0 := if_pos ⟨rfl, by rw [hn]; rfl⟩
      simp [this]
    · rw [at1_other _ _ _ _ e]
      exact List.map_congr_left fun j _ => (if_neg (fun z => e z.1)).symm
  have e3 : at1 (scr s) b false = scr (edo P S pl s b) := by
    funext k
    by_cases e : k = b
    · subst e; rw [at1_same]; exact (if_pos ⟨rfl, by rw [hn]; rfl⟩).symm
    · rw [at1_other _ _ _ _ e]; exact (if_neg (fun z => e z.1)).symm
  have e4 : crs none = off (edo P S pl s b) := by show _ = crs (pl (ops s)); rw [hn]
  rw [raw_i, cut_blk N P S s (wf_len h) b hb, ← ern_jnd P S none (pgs s b), laid_blk N P S s (wf_len h) b hb _ (fun p hp => ern_len P S _ _ p hp)]
  have e5 : img N P (edo P S pl s b) = jnd N fun k => jnd P fun p => if k = b then ern P S none (pgs s b) p else pgs s k p := by
    show (jnd N fun k => jnd P fun p => if k = b then ern P S (pl (ops s)) (pgs s b) p else pgs s k p) = _
    rw [hn]
  rw [← e5, e4]
  show mkX _ (at1 (fun b => (List.range P).map (usd s b)) b (List.replicate P 0)) _ (at1 (scr s) b false) _ _ = _
  rw [e2, e3]
  rfl
theorem raw_edo_some {N P S : Nat} {s : St} (h : Wf N P S s) (pl : Pln) (b : Nat) (hb : b < N) (l l' : List Opn) (cr : Bool) (mm : List Int) (hn : pl (ops s) = some (cr, mm)) :
    mkX (laid (xi (raw N P s l)) (b * (P * S)) ((fun o : Option (Bool × List Int) => match o with | none => List.replicate (P * S) 255 | some (_, m) => ofb (P * S) (erased (cut (P * S) (xi (raw N P s l)) b) m)) (some (cr, mm)))) (xp (raw N P s l)) (at1 (xe (raw N P s l)) b (xe (raw N P s l) b + 1)) (xs (raw N P s l)) (!crs (some (cr, mm))) l' = raw N P (edo P S pl s b) l' := by
  have hi : ¬ ((pl (ops s)).isNone = true) := by rw [hn]; simp
  have e2 : (fun b => (List.range P).map (usd s b)) = fun k => (List.range P).map (usd (edo P S pl s b) k) := by
    funext k
    exact List.map_congr_left fun j _ => (if_neg (fun z => hi z.2)).symm
  have e3 : scr s = scr (edo P S pl s b) := by
    funext k
    exact (if_neg (fun z => hi z.2)).symm
  have e4 : crs (some (cr, mm)) = off (edo P S pl s b) := by show _ = crs (pl (ops s)); rw [hn]
  rw [raw_i, cut_blk N P S s (wf_len h) b hb, ← ern_jnd P S (some (cr, mm)) (pgs s b), laid_blk N P S s (wf_len h) b hb _ (fun p hp => ern_len P S _ _ p hp)]
  have e5 : img N P (edo P S pl s b) = jnd N fun k => jnd P fun p => if k = b then ern P S (some (cr, mm)) (pgs s b) p else pgs s k p := by
    show (jnd N fun k => jnd P fun p => if k = b then ern P S (pl (ops s)) (pgs s b) p else pgs s k p) = _
    rw [hn]
  rw [← e5, e4]
  show mkX _ (fun b => (List.range P).map (usd s b)) _ (scr s) _ _ = _
  rw [e2, e3]
  rfl
end Go.Proofs.YtakibiigcdgohaaGreatDoor.na
namespace Go.Proofs.YtakibiigcdgohaaGreatDoor.na
open Go.RowKit Go.Proofs.YtakibiigcdgohaaGreatDoor.fa
set_option maxRecDepth 20000
def Lsp (N P : Nat) (s : St) : Prop := ∀ b, b < N → (∀ p, p < P → 0 < usd s b p → (p : Int) ≤ lsp s b) ∧ (0 ≤ lsp s b → ∃ p, p < P ∧ lsp s b = p ∧ 0 < usd s b p)
theorem lsp_new (N P S : Nat) : Lsp N P (new S) := fun b _ => ⟨fun p _ h => by have : (0 : Int) < 0 := h; omega, fun h => by have : (0 : Int) ≤ -1 := h; omega⟩
theorem lsp_pdo {N P S : Nat} {s : St} (hw : Wf N P S s) (h : Lsp N P s) (pl : Pln) (b p : Nat) (hp : p < P) (d : List Int) : Lsp N P (pdo S pl s b p d) := fun k hk => by
  have e1 : ∀ q, usd (pdo S pl s b p d) k q = at2 (usd s) b p (usd s b p + 1) k q := fun _ => rfl
  have e2 : lsp (pdo S pl s b p d) k = at1 (lsp s) b (max (lsp s b) p) k := rfl
  by_cases e : k = b
  · subst e
    have hu := ((hw k hk).1 p hp).2.2.1
    rw [e2, at1_same]
    refine ⟨fun q hq h0 => ?_, fun h0 => ?_⟩
    · by_cases z : q = p
      · subst z; omega
      · rw [e1, show at2 (usd s) k p (usd s k p + 1) k q = usd s k q from if_neg (fun c => z c.2)] at h0
        have := (h k hk).1 q hq h0
        omega
    · by_cases z : lsp s k ≤ (p : Int)
      · exact ⟨p, hp, by omega, by rw [e1, at2_same]; omega⟩
      · obtain ⟨q, q1, q2, q3⟩ := (h k hk).2 (by omega)
        refine ⟨q, q1, by omega, ?_⟩
        by_cases y : q = p
        · subst y; omega
        · rw [e1, show at2 (usd s) k p (usd s k p + 1) k q = usd s k q from if_neg (fun c => y c.2)]
          exact q3
  · rw [e2, at1_other _ _ _ _ e]
    have e3 : ∀ q, usd (pdo S pl s b p d) k q = usd s k q := fun q => if_neg (fun c => e c.1)
    exact ⟨fun q hq h0 => (h k hk).1 q hq (by rw [← e3 q]; exact h0), fun h0 => by
      obtain ⟨q, q1, q2, q3⟩ := (h k hk).2 h0
      exact ⟨q, q1, q2, by rw [e3 q]; exact q3⟩⟩
theorem lsp_edo {N P S : Nat} {s : St} (h : Lsp N P s) (pl : Pln) (b : Nat) : Lsp N P (edo P S pl s b) := fun k hk => by
  by_cases e : k = b ∧ (pl (ops s)).isNone = true
  · have e1 : ∀ q, usd (edo P S pl s b) k q = 0 := fun q => if_pos e
    have e2 : lsp (edo P S pl s b) k = -1 := if_pos e
    exact ⟨fun q _ h0 => by rw [e1 q] at h0; omega, fun h0 => by rw [e2] at h0; omega⟩
  · have e1 : ∀ q, usd (edo P S pl s b) k q = usd s k q := fun q => if_neg e
    have e2 : lsp (edo P S pl s b) k = lsp s k := if_neg e
    rw [e2]
    exact ⟨fun q hq h0 => (h k hk).1 q hq (by rw [← e1 q]; exact h0), fun h0 => by
      obtain ⟨q, q1, q2, q3⟩ := (h k hk).2 h0
      exact ⟨q, q1, q2, by rw [e1 q]; exact q3⟩⟩
theorem lsp_sdo {N P S : Nat} {s : St} (h : Lsp N P s) (pl : Pln) (b : Nat) : Lsp N P (sdo P S pl s b) := h
theorem lsp_pwr {N P : Nat} {s : St} (h : Lsp N P s) (on : Bool) : Lsp N P (pwr s on) := h
theorem bhd_lsp {N P : Nat} {s : St} (h : Lsp N P s) (l : List Opn) (b p : Nat) (hb : b < N) : Bhd (xp (raw N P s l) b) p ↔ (p : Int) ≤ lsp s b := by
  constructor
  · rintro ⟨i, h1, h2, h3⟩
    rw [raw_plen] at h2
    rw [raw_p N P s l b i h2] at h3
    have := (h b hb).1 i h2 h3
    omega
  · intro h0
    obtain ⟨q, q1, q2, q3⟩ := (h b hb).2 (by omega)
    exact ⟨q, by omega, by rw [raw_plen]; exact q1, by rw [raw_p N P s l b q q1]; exact q3⟩
end Go.Proofs.YtakibiigcdgohaaGreatDoor.na
namespace Go.Proofs.YtakibiigcdgohaaGreatDoor.na
open Go.RowKit Go.Proofs.YtakibiigcdgohaaGreatDoor.fa
set_option maxRecDepth 20000
section
variable {M : Nat → Bool} {w : World} {c r d : Nat} {q : Nat → Nat} {pv tv : Value} {g : List Int} {N P S : Nat} {pl : Pln} {X : Raw}
theorem perform_any (h : Lay M w c r d q pv tv g N P S pl X) (hM : Mlt M w) (hon : xo X = true) (o : Opn) (ho : o.2.2.2.2 = 0) (dv : Value) (off len cap : Nat) (deed : Value) (R : Option (Bool × List Int) → List Int)
    (hD : Deed w deed (.slice (some ⟨d, off, none⟩) len cap) R) (hd : Byt (hid M w) dv o.2.2.2.1) (hf : off + len ≤ N * (P * S)) (hR : ∀ po, (R po).length = len ∧ AllB (R po)) (htr : (xt X).length ≤ 1000000) :
    Calls Tryz.prog 93 #[.pointer (some ⟨c, 0, none⟩), .agg (opc o dv).toArray, .slice (some ⟨d, off, none⟩) len cap, deed] w (Perf M w c r d q pv g N P S pl X off (R (pl (xt X).length)) o (pl (xt X).length)) := by
  cases e : pl (xt X).length with
  | none => exact perform_none h hM hon o ho dv off len cap deed R e hD hd hf (hR _) htr
  | some y =>
    obtain ⟨cr, mm⟩ := y
    cases cr with
    | false => exact perform_fail h hM hon o ho dv off len cap deed R mm e hD hd hf (hR _) htr
    | true => exact perform_crash h hM hon o ho dv off len cap deed R mm e hD hd hf (hR _) htr
theorem Lay.part (h : Lay M w c r d q pv tv g N P S pl X) (k sz : Nat) (hk : k * sz + sz ≤ N * (P * S)) (cap : Nat) (hc : sz ≤ cap) (hm : cap ≤ 9223372036854775807) : Byt w (.slice (some ⟨d, k * sz, none⟩) sz cap) (cut sz (xi X) k) := by
  obtain ⟨hA, hl, ha⟩ := h.2.2.2.2.1
  have hlen : (cut sz (xi X) k).length = sz := by simp [cut]; omega
  have := hA.subG (k * sz) (cut sz (xi X) k) (by rw [hlen, hl]; exact hk) (fun t ht => cut_gb sz (xi X) k t (by omega))
  rw [Nat.zero_add] at this
  exact this.bytG (cut_all sz (xi X) k ha) sz cap hlen hc hm
theorem cut_len2 (h : Lay M w c r d q pv tv g N P S pl X) (k sz : Nat) (hk : k * sz + sz ≤ N * (P * S)) : (cut sz (xi X) k).length = sz := by
  obtain ⟨hA, hl, ha⟩ := h.2.2.2.2.1
  simp [cut]; omega
theorem program_off (h : Lay M w c r d q pv tv g N P S pl X) (p : List Int) (vb : Value) (ys : List Int) (hy : Byt w vb ys) (ho : xo X = false) :
    Calls Tryz.prog 71 #[.pointer (some ⟨c, 0, none⟩), .agg (ints .i64 p), vb] w fun e w' => e = .returned (.int .i64 4) ∧ Below w.heap.size w w' := by
  have HL : Hid (Lay M w c r d q pv tv g N P S pl X) := h
  obtain ⟨bo, bc, rfl⟩ := byt_form hy
  have HON : Hid (xo X = false) := ho
  clear ho
  clear h hy
  have t0 := tR
  go_enter Tryz.func71, Tryz.ntmps71
  go_wp2_with (first
    | (have q1 := t1; go_at_call 38; refine (on_any c _ _ HL.out.cells.2.1).mono ?_; rintro e w' ⟨rfl, hw⟩; obtain rfl := hw.symm; rw [HON.out]; clear t1; have t2 := tR)
    | (have q0 := t0; refine box_lawF _ rfl (.tmp 1) 112 rfl .i64 p rfl ?_; intro w1 X1 B1 l1; have HP : Hid (Ar w1 w.heap.size 0 .i64 p) := X1; have HL : Hid (Lay M w1 c r d q pv tv g N P S pl X) := HL.out.below B1; have BB : Hid (Below w.heap.size w w1) := B1; clear X1 B1 t0; have t1 := tR))
  go_ret
  exact ⟨rfl, BB.out⟩
theorem program_no (h : Lay M w c r d q pv tv g N P S pl X) (p : List Int) (hp : p.length = 2) (vb : Value) (ys : List Int) (hy : Byt w vb ys) (ho : xo X = true) (hn : ¬ (0 ≤ gb p 0 ∧ gb p 0 < N ∧ 0 ≤ gb p 1 ∧ gb p 1 < P)) :
    Calls Tryz.prog 71 #[.pointer (some ⟨c, 0, none⟩), .agg (ints .i64 p), vb] w fun e w' => e = .returned (.int .i64 2) ∧ Below w.heap.size w w' := by
  have HL : Hid (Lay M w c r d q pv tv g N P S pl X) := h
  obtain ⟨bo, bc, rfl⟩ := byt_form hy
  have HON : Hid (xo X = true) := ho
  have HN : Hid (¬ (0 ≤ gb p 0 ∧ gb p 0 < N ∧ 0 ≤ gb p 1 ∧ gb p 1 < P)) := hn
  clear ho hn
  clear h hy
  have t0 := tR
  go_enter Tryz.func71, Tryz.ntmps71
  go_wp2_with (first
    | (have q3 := t3; go_at_call 83; refine (pageCells_no HL.out p hp HN.out).mono ?_; rintro e w3 ⟨rfl, B3⟩; have HP : Hid (Ar w3 w.heap.size 0 .i64 p) := HP.out.below B3 (HP.out.lt (by omega)); have HL : Hid (Lay M w3 c r d q pv tv g N P S pl X) := HL.out.below B3; have BB : Hid (Below w.heap.size w w3) := BB.out.trans (B3.mono BB.out.size); clear B3 t3; have t4 := tR)
    | (have q2 := t2; refine load_lawS _ (by rfl) _ _ rfl (ld_place hp HP.out.1) ?_; clear t2; have t3 := tR)
    | (have q1 := t1; go_at_call 38; refine (on_any c _ _ HL.out.cells.2.1).mono ?_; rintro e w' ⟨rfl, hw⟩; obtain rfl := hw.symm; rw [HON.out]; clear t1; have t2 := tR)
    | (have q0 := t0; refine box_lawF _ rfl (.tmp 1) 112 rfl .i64 p rfl ?_; intro w1 X1 B1 l1; have HP : Hid (Ar w1 w.heap.size 0 .i64 p) := X1; have HL : Hid (Lay M w1 c r d q pv tv g N P S pl X) := HL.out.below B1; have BB : Hid (Below w.heap.size w w1) := B1; clear X1 B1 t0; have t1 := tR))
  go_ret
  exact ⟨rfl, BB.out⟩
theorem program_len (h : Lay M w c r d q pv tv g N P S pl X) (p : List Int) (hp : p.length = 2) (vb : Value) (ys : List Int) (hy : Byt w vb ys) (ho : xo X = true) (b j : Nat) (e0 : gb p 0 = b) (e1 : gb p 1 = j) (hb : b < N) (hj : j < P) (hl : ys.length ≠ S) :
    Calls Tryz.prog 71 #[.pointer (some ⟨c, 0, none⟩), .agg (ints .i64 p), vb] w fun e w' => e = .returned (.int .i64 2) ∧ Below w.heap.size w w' := by
  have HL : Hid (Lay M w c r d q pv tv g N P S pl X) := h
  obtain ⟨bo, bc, rfl⟩ := byt_form hy
  have HON : Hid (xo X = true) := ho
  obtain ⟨n, hn⟩ : ∃ n, n = b * P + j := ⟨_, rfl⟩
  have HPG : Hid (gb p 0 = b ∧ gb p 1 = j ∧ b < N ∧ j < P ∧ n = b * P + j) := ⟨e0, e1, hb, hj, hn⟩
  have hl' : ¬ ((ys.length : Int) = (S : Int)) := by omega
  have hl2 : ((ys.length : Int) == (S : Int)) = false := beq_eq_false_iff_ne.2 hl'
  clear ho e0 e1 hb hj hn hl
  clear h hy
  have t0 := tR
  go_enter Tryz.func71, Tryz.ntmps71
  go_wp2_with (first
    | (have q3 := t3; go_at_call 83; refine (pageCells_yes HL.out p hp b j n HPG.out.1 HPG.out.2.1 HPG.out.2.2.1 HPG.out.2.2.2.1 HPG.out.2.2.2.2).mono ?_; rintro e w3 ⟨rfl, B3⟩; have HP : Hid (Ar w3 w.heap.size 0 .i64 p) := HP.out.below B3 (HP.out.lt (by omega)); have HL : Hid (Lay M w3 c r d q pv tv g N P S pl X) := HL.out.below B3; have BB : Hid (Below w.heap.size w w3) := BB.out.trans (B3.mono BB.out.size); clear B3 t3; have t4 := tR)
    | (have q2 := t2; refine load_lawS _ (by rfl) _ _ rfl (ld_place hp HP.out.1) ?_; clear t2; have t3 := tR)
    | (have q1 := t1; go_at_call 38; refine (on_any c _ _ HL.out.cells.2.1).mono ?_; rintro e w' ⟨rfl, hw⟩; obtain rfl := hw.symm; rw [HON.out]; clear t1; have t2 := tR)
    | (have q0 := t0; refine box_lawF _ rfl (.tmp 1) 112 rfl .i64 p rfl ?_; intro w1 X1 B1 l1; have HP : Hid (Ar w1 w.heap.size 0 .i64 p) := X1; have HL : Hid (Lay M w1 c r d q pv tv g N P S pl X) := HL.out.below B1; have BB : Hid (Below w.heap.size w w1) := B1; clear X1 B1 t0; have t1 := tR))
  go_ret
  exact ⟨rfl, BB.out⟩
theorem program_ref (h : Lay M w c r d q pv tv g N P S pl X) (p : List Int) (hp : p.length = 2) (vb : Value) (ys : List Int) (hy : Byt w vb ys) (ho : xo X = true) (b j : Nat) (e0 : gb p 0 = b) (e1 : gb p 1 = j) (hb : b < N) (hj : j < P) (hl : ys.length = S) (x : Int) (hx0 : x ≠ 0)
    (h7 : xs X b = true ∨ 2 ≤ gb (xp X b) j → x = 7) (h6 : xs X b = false → gb (xp X b) j = 0 → Bhd (xp X b) j → x = 6) (h0 : xs X b = false → gb (xp X b) j < 2 → ¬ (gb (xp X b) j = 0 ∧ Bhd (xp X b) j) → x = 0) :
    Calls Tryz.prog 71 #[.pointer (some ⟨c, 0, none⟩), .agg (ints .i64 p), vb] w fun e w' => e = .returned (.int .i64 x) ∧ Below w.heap.size w w' := by
  have HL : Hid (Lay M w c r d q pv tv g N P S pl X) := h
  obtain ⟨bo, bc, rfl⟩ := byt_form hy
  have HON : Hid (xo X = true) := ho
  obtain ⟨n, hn⟩ : ∃ n, n = b * P + j := ⟨_, rfl⟩
  have HPG : Hid (gb p 0 = b ∧ gb p 1 = j ∧ b < N ∧ j < P ∧ n = b * P + j) := ⟨e0, e1, hb, hj, hn⟩
  have HX : Hid ((xs X b = true ∨ 2 ≤ gb (xp X b) j → x = 7) ∧ (xs X b = false → gb (xp X b) j = 0 → Bhd (xp X b) j → x = 6) ∧ (xs X b = false → gb (xp X b) j < 2 → ¬ (gb (xp X b) j = 0 ∧ Bhd (xp X b) j) → x = 0)) := ⟨h7, h6, h0⟩
  have hx1 : (x == 0) = false := beq_eq_false_iff_ne.2 hx0
  rw [hl]
  clear h hy ho e0 e1 hb hj hn h7 h6 h0 hl
  have t0 := tR
  go_enter Tryz.func71, Tryz.ntmps71
  go_wp2_with (first
    | (have q3 := t3; go_at_call 83; refine (pageCells_yes HL.out p hp b j n HPG.out.1 HPG.out.2.1 HPG.out.2.2.1 HPG.out.2.2.2.1 HPG.out.2.2.2.2).mono ?_; rintro e w3 ⟨rfl, B3⟩; have HP : Hid (Ar w3 w.heap.size 0 .i64 p) := HP.out.below B3 (HP.out.lt (by omega)); have HL : Hid (Lay M w3 c r d q pv tv g N P S pl X) := HL.out.below B3; have BB : Hid (Below w.heap.size w w3) := BB.out.trans (B3.mono BB.out.size); clear B3 t3; have t4 := tR)
    | (have q2 := t2; refine load_lawS _ (by rfl) _ _ rfl (ld_place hp HP.out.1) ?_; clear t2; have t3 := tR)
    | (have q1 := t1; go_at_call 38; refine (on_any c _ _ HL.out.cells.2.1).mono ?_; rintro e w' ⟨rfl, hw⟩; obtain rfl := hw.symm; rw [HON.out]; clear t1; have t2 := tR)
    | (have q0 := t0; refine box_lawF _ rfl (.tmp 1) 112 rfl .i64 p rfl ?_; intro w1 X1 B1 l1; have HP : Hid (Ar w1 w.heap.size 0 .i64 p) := X1; have HL : Hid (Lay M w1 c r d q pv tv g N P S pl X) := HL.out.below B1; have BB : Hid (Below w.heap.size w w1) := B1; clear X1 B1 t0; have t1 := tR))
  have f9 := HL.out.cells.2.2.2.1
  have fp0 : w3.cell? ⟨w.heap.size, 0, none⟩ = some (.int .i64 (b : Int)) := by rw [← HPG.out.1]; exact HP.out.cell0 0 (by omega)
  have i0 : (0 : Int) ≤ (b : Int) := by omega
  have i1 : (b : Int) < (N : Int) := by have := HPG.out.2.2.1; omega
  go_quiet (fail)
  have HL : Hid (Lay M (w3.drewN nq) c r d q pv tv g N P S pl X) := HL.out.drewN nq
  have HP : Hid (Ar (w3.drewN nq) w.heap.size 0 .i64 p) := HP.out.drewN nq
  have BB : Hid (Below w.heap.size w (w3.drewN nq)) := below_drawn BB.out nq
  clear f9 fp0
  generalize w3.drewN nq = w4 at *
  have fp1 : w4.cell? ⟨w.heap.size, 1, none⟩ = some (.int .i64 (j : Int)) := by rw [← HPG.out.2.1]; exact HP.out.cell0 1 (by omega)
  have t6 := tR
  go_wp2_with (first
    | (have q6 := t6; go_at_call 92; refine (refuses_any r (b * 3) (q b) (xs X b) (xp X b) j P _ (HL.out.st HPG.out.2.2.1).1 (HL.out.st HPG.out.2.2.1).2.2 (HL.out.2.2.2.2.2.2.1 b HPG.out.2.2.1).1 (HL.out.2.2.2.2.2.2.1 b HPG.out.2.2.1).2 HPG.out.2.2.2.1 (by have := HL.out.num; omega) x HX.out.1 HX.out.2.1 HX.out.2.2).mono ?_; rintro e w' ⟨rfl, hw⟩; obtain rfl := hw.symm; clear t6; have t7 := tR))
  go_ret
  exact ⟨rfl, BB.out⟩
def Done (M : Nat → Bool) (w : World) (c r d : Nat) (q : Nat → Nat) (pv : Value) (g : List Int) (N P S : Nat) (pl : Pln) (x : Int) (Y : Raw) (e : Ending) (w' : World) : Prop :=
  ∃ M' tv', e = .returned (.int .i64 x) ∧ Lay M' w' c r d q pv tv' g N P S pl Y ∧ (∀ k, k < w.heap.size → M' k = M k) ∧ Frm M w w' ∧ Mlt M' w'
theorem program_do (h : Lay M w c r d q pv tv g N P S pl X) (hM : Mlt M w) (vb : Value) (ys : List Int) (hy : Byt (hid M w) vb ys) (ho : xo X = true) (b j : Nat) (hb : b < N) (hj : j < P) (hl : ys.length = S) (hs : xs X b = false) (hu : 0 ≤ gb (xp X b) j ∧ gb (xp X b) j < 2) (hB : ¬ (gb (xp X b) j = 0 ∧ Bhd (xp X b) j)) (htr : (xt X).length ≤ 1000000) :
    Calls Tryz.prog 71 #[.pointer (some ⟨c, 0, none⟩), .agg (ints .i64 [(b : Int), (j : Int)]), vb] w (Done M w c r d q pv g N P S pl (ans (pl (xt X).length)) (mkX (laid (xi X) ((b * P + j) * S) (pgm S (pl (xt X).length) (cut S (xi X) (b * P + j)) ys)) (at1 (xp X) b ((xp X b).set j (gb (xp X b) j + 1))) (xe X) (xs X) (!crs (pl (xt X).length)) (xt X ++ [opn 1 b j ys (ans (pl (xt X).length))]))) := by
  have HL : Hid (Lay M w c r d q pv tv g N P S pl X) := h
  have HM : Hid (Mlt M w) := hM
  obtain ⟨bo, bc, rfl⟩ := byt_form hy
  have HYV : Hid (Byt (hid M w) (.slice bo ys.length bc) ys) := hy
  have HON : Hid (xo X = true) := ho
  obtain ⟨n, hn⟩ : ∃ n, n = b * P + j := ⟨_, rfl⟩
  obtain ⟨p, hpe⟩ : ∃ p : List Int, p = [(b : Int), (j : Int)] := ⟨_, rfl⟩
  have hp : p.length = 2 := by rw [hpe]; rfl
  have HPE : Hid (p = [(b : Int), (j : Int)]) := hpe
  have HPG : Hid (gb p 0 = b ∧ gb p 1 = j ∧ b < N ∧ j < P ∧ n = b * P + j) := ⟨by rw [hpe]; rfl, by rw [hpe]; rfl, hb, hj, hn⟩
  obtain ⟨u, hue⟩ : ∃ u, u = gb (xp X b) j := ⟨_, rfl⟩
  rw [← hue] at hu hB ⊢
  obtain ⟨po, hpo⟩ : ∃ po, po = pl (xt X).length := ⟨_, rfl⟩
  rw [← hpo, ← hn, ← hpe]
  have HPO : Hid (po = pl (xt X).length) := hpo
  have HU : Hid (gb (xp X b) j = u) := hue.symm
  have HX : Hid (¬ (xs X b = true ∨ 2 ≤ gb (xp X b) j) ∧ ¬ (gb (xp X b) j = 0 ∧ Bhd (xp X b) j)) := by
    rw [← hue]
    refine ⟨fun q => ?_, hB⟩
    rcases q with q | q
    · rw [hs] at q; cases q
    · omega
  have qw : IntKind.i64.wrap (u + 1) = u + 1 := by rw [IntKind.wrap_i64]; omega
  have HLS : Hid (ys.length = S) := hl
  have HLM : Hid (S ≤ 1048576 ∧ n * S + S ≤ N * (P * S)) := by
    refine ⟨by have := h.num; omega, ?_⟩
    have := (idx_fits (S := S) hb hj).1
    rw [← hn, Nat.succ_mul] at this
    exact this
  have SB : Hid (∀ w0, Byt w0 (.slice bo S bc) ys → Calls Tryz.prog 48 #[.slice bo S bc] w0 fun e w' => ∃ v', e = .returned v' ∧ Bow w0.heap.size w' v' ys ∧ Below w0.heap.size w0 w') := fun w0 hw => bclone_any _ ys w0 hw (by have := h.num; omega)
  rw [hl] at HYV ⊢
  clear h hM hy ho hb hj hn hue hs hu hB hl hpe hpo
  have t0 := tR
  go_enter Tryz.func71, Tryz.ntmps71
  go_wp2_with (first
    | (have q3 := t3; go_at_call 83; refine (pageCells_yes HL.out p hp b j n HPG.out.1 HPG.out.2.1 HPG.out.2.2.1 HPG.out.2.2.2.1 HPG.out.2.2.2.2).mono ?_; rintro e w3 ⟨rfl, B3⟩; have HP : Hid (Ar w3 w.heap.size 0 .i64 p) := HP.out.below B3 (HP.out.lt (by omega)); have HL : Hid (Lay M w3 c r d q pv tv g N P S pl X) := HL.out.below B3; have BB : Hid (Below w.heap.size w w3) := BB.out.trans (B3.mono BB.out.size); clear B3 t3; have t4 := tR)
    | (have q2 := t2; refine load_lawS _ (by rfl) _ _ rfl (ld_place hp HP.out.1) ?_; clear t2; have t3 := tR)
    | (have q1 := t1; go_at_call 38; refine (on_any c _ _ HL.out.cells.2.1).mono ?_; rintro e w' ⟨rfl, hw⟩; obtain rfl := hw.symm; rw [HON.out]; clear t1; have t2 := tR)
    | (have q0 := t0; refine box_lawF _ rfl (.tmp 1) 112 rfl .i64 p rfl ?_; intro w1 X1 B1 l1; have HP : Hid (Ar w1 w.heap.size 0 .i64 p) := X1; have HL : Hid (Lay M w1 c r d q pv tv g N P S pl X) := HL.out.below B1; have BB : Hid (Below w.heap.size w w1) := B1; clear X1 B1 t0; have t1 := tR))
  have f9 := HL.out.cells.2.2.2.1
  have fp0 : w3.cell? ⟨w.heap.size, 0, none⟩ = some (.int .i64 (b : Int)) := by rw [← HPG.out.1]; exact HP.out.cell0 0 (by omega)
  have i0 : (0 : Int) ≤ (b : Int) := by omega
  have i1 : (b : Int) < (N : Int) := by have := HPG.out.2.2.1; omega
  go_quiet (fail)
  have HL : Hid (Lay M (w3.drewN nq) c r d q pv tv g N P S pl X) := HL.out.drewN nq
  have HP : Hid (Ar (w3.drewN nq) w.heap.size 0 .i64 p) := HP.out.drewN nq
  have BB : Hid (Below w.heap.size w (w3.drewN nq)) := below_drawn BB.out nq
  clear f9 fp0
  generalize w3.drewN nq = w4 at *
  have fp1 : w4.cell? ⟨w.heap.size, 1, none⟩ = some (.int .i64 (j : Int)) := by rw [← HPG.out.2.1]; exact HP.out.cell0 1 (by omega)
  have t6 := tR
  go_wp2_with (first
    | (have q6 := t6; go_at_call 92; refine (refuses_any r (b * 3) (q b) (xs X b) (xp X b) j P _ (HL.out.st HPG.out.2.2.1).1 (HL.out.st HPG.out.2.2.1).2.2 (HL.out.2.2.2.2.2.2.1 b HPG.out.2.2.1).1 (HL.out.2.2.2.2.2.2.1 b HPG.out.2.2.1).2 HPG.out.2.2.2.1 (by have := HL.out.num; omega) 0 (fun q => absurd q HX.out.1) (fun _ q1 q2 => absurd ⟨q1, q2⟩ HX.out.2) (fun _ _ _ => rfl)).mono ?_; rintro e w' ⟨rfl, hw⟩; obtain rfl := hw.symm; clear t6; have t7 := tR))
  obtain ⟨s0, s1, s2⟩ := HL.out.st HPG.out.2.2.1
  have cu : w4.cell? ⟨q b, j, none⟩ = some (.int .i64 u) := by rw [← HU.out]; exact (HL.out.2.2.2.2.2.2.1 b HPG.out.2.2.1).1.cell0 j (by rw [(HL.out.2.2.2.2.2.2.1 b HPG.out.2.2.1).2]; exact HPG.out.2.2.2.1)
  have i2 : (0 : Int) ≤ (j : Int) := by omega
  have i3 : (j : Int) < (P : Int) := by have := HPG.out.2.2.2.1; omega
  refine wp_region_any (by kernel_rfl) ?_
  change wpAny _ _ _ _ _ _ _ (World.drew _)
  refine wpAny_quiet_then (C := fun w' => ∃ n, w' = w4.drewN n) 0 10 1 _ (by kernel_rfl) rfl (by kernel_rfl) (by kernel_rfl) ⟨1, rfl⟩ ?_
  simp only [List.take_succ_cons, List.take_zero, List.drop_zero]
  repeat (quiet_step (fail))
  refine wpQuiet_nil ?_
  rintro f _ ⟨nr, rfl⟩
  have HL : Hid (Lay M (w4.drewN nr) c r d q pv tv g N P S pl X) := HL.out.drewN nr
  have HP : Hid (Ar (w4.drewN nr) w.heap.size 0 .i64 p) := HP.out.drewN nr
  have BB : Hid (Below w.heap.size w (w4.drewN nr)) := below_drawn BB.out nr
  clear s0 s1 s2 cu fp1 i0 i1
  generalize w4.drewN nr = w5 at *
  have HQ : Hid (Ar w5 (q b) 0 .i64 (xp X b) ∧ (xp X b).length = P) := HL.out.2.2.2.2.2.2.1 b HPG.out.2.2.1
  refine wpAny_ready (rs := [10]) (by kernel_rfl) (by simp) ?_
  refine AllReady.cons rfl (fun K hK => ?_) AllReady.nil
  refine step_store1 _ rfl none rfl (.tmp 52) (.tmp 51) 3 rfl (q b) j (.int .i64 (u + 1)) rfl rfl (by rw [HQ.out.1.cell0 j (by rw [HQ.out.2]; exact HPG.out.2.2.2.1)]; rfl) (HQ.out.1.free0 j (by rw [HQ.out.2]; exact HPG.out.2.2.2.1)) one_int.2 rfl rfl ?_
  intro w6 e6
  have g6 : w5.grownBy w6 (some (q b)) := by rw [e6.out]; exact keep_set _ _ _ _
  have HL : Hid (Lay M w6 c r d q pv tv g N P S pl (mkX (xi X) (at1 (xp X) b ((xp X b).set j (u + 1))) (xe X) (xs X) (xo X) (xt X))) := by
    refine HL.out.prs b HPG.out.2.2.1 g6 _ ?_ (by rw [List.length_set]; exact HQ.out.2)
    rw [e6.out]
    exact HQ.out.1.set0 j (by rw [HQ.out.2]; exact HPG.out.2.2.2.1) _
  have mq : M (q b) = true := HL.out.2.1.1.2.2.2 b HPG.out.2.2.1
  have hbM : Hid (M w.heap.size = false) := not_hid HM.out (Nat.le_refl _)
  have HP : Hid (Ar w6 w.heap.size 0 .i64 p) := HP.out.heap (g6.block _ (HP.out.lt (by omega)) (by simp; intro e; have := hbM.out; rw [e, mq] at this; cases this))
  have FF : Hid (Frm M w w6) := (Frm.of_below BB.out).tr (Frm.grown g6 (fun k e => by injection e with e; subst e; exact mq))
  have HMw : Hid (Mlt M w6) := fun k hk => Nat.lt_of_lt_of_le (HM.out k hk) FF.out.size
  refine hK _ _ ?_
  simp only [Act.put]
  clear e6 g6 mq HQ
  refine wpAny_done (by kernel_rfl) ?_ _
  go_wp2
  have HL : Hid (Lay M w6.drew c r d q pv tv g N P S pl (mkX (xi X) (at1 (xp X) b ((xp X b).set j (u + 1))) (xe X) (xs X) (xo X) (xt X))) := HL.out.below (Below.refl _ _).drew
  have FF : Hid (Frm M w w6.drew) := FF.out
  have HMw : Hid (Mlt M w6.drew) := HMw.out
  refine wp_region_held_drew (S := fun w' => Ar w' w.heap.size 0 .i64 p) (by kernel_rfl) (HP.out.drewN 1) (fun hS => ?_)
  obtain ⟨x1, hx0⟩ : ∃ x, x = w6.drew := ⟨_, rfl⟩
  rw [← hx0] at hS HL FF HMw ⊢
  clear hx0
  refine tkH 0 (some 53) (.pointer (some ⟨c, 0, none⟩)) rfl rfl (Or.inl ⟨by rfl, fun w' hw' => by rfl⟩) hS ?_
  simp only [Act.put, zE1, zE2, zE3]
  refine tkH 1 (some 54) (.agg (ints .i64 p)) rfl rfl (Or.inl ⟨by rfl, fun w' hw' => by exact exec_loadN 112 (.tmp 4) rfl _ rfl _ _ (ld_place hp hw'.1)⟩) hS ?_
  simp only [Act.put, zE1, zE2, zE3]
  refine tkH 2 (some 55) (.slice bo S bc) rfl rfl (Or.inl ⟨by rfl, fun w' hw' => by rfl⟩) hS ?_
  simp only [Act.put, zE1, zE2, zE3]
  refine tkH 5 (some 58) (.slice (some ⟨d, n * S, none⟩) S (N * (P * S) - n * S)) rfl rfl (Or.inl ⟨by rfl, fun w' hw' => by rfl⟩) hS ?_
  simp only [Act.put, zE1, zE2, zE3]
  refine tkH 6 (some 59) (.slice bo S bc) rfl rfl (Or.inl ⟨by rfl, fun w' hw' => by rfl⟩) hS ?_
  simp only [Act.put, zE1, zE2, zE3]
  refine wpAnyH_ready (rs := [3]) (by kernel_rfl) (by simp) ?_
  refine AllReadyH.cons rfl (fun K hK => ?_) AllReadyH.nil
  refine ge.step_callW _ (by rfl) (some 56) rfl 48 #[.tmp 55] #[35] rfl (fun q w' => by rfl) #[.slice bo S bc] (by simp only [List.map_toArray, List.map_cons, List.map_nil]; rfl) (fun v w' => Bow x1.heap.size w' v ys ∧ Below x1.heap.size x1 w') ?_ ?_
  · exact SB.out x1 (hid_byt (HYV.out.below FF.out.hid0))
  rintro dv x2 ⟨y9, hb9⟩
  obtain ⟨dq, dc, rfl⟩ := byt_form y9.1
  have hdv := bow_hid y9 HMw.out
  have HL : Hid (Lay M x2 c r d q pv tv g N P S pl (mkX (xi X) (at1 (xp X) b ((xp X b).set j (u + 1))) (xe X) (xs X) (xo X) (xt X))) := HL.out.below hb9
  have FF : Hid (Frm M w x2) := FF.out.tr (Frm.of_below hb9)
  have HMw : Hid (Mlt M x2) := fun k hk => Nat.lt_of_lt_of_le (HMw.out k hk) hb9.size
  have hS : Ar x2 w.heap.size 0 .i64 p := hS.below hb9 (hS.lt (by omega))
  have HDV : Hid (Byt (hid M x2) (.slice dq ys.length dc) ys) := hdv
  clear y9 hb9 hdv
  refine hK.out _ _ hS (fun _ => ?_)
  simp only [Act.put, zE1, zE2, zE3]
  clear hK K
  refine tkH 4 (some 57) (.agg (opc (opn 1 b j ys 0) (.slice dq ys.length dc)).toArray) rfl rfl (Or.inl ⟨by rfl, fun w' hw' => by (rw [HPE.out]; kernel_rfl)⟩) hS ?_
  simp only [Act.put, zE1, zE2, zE3]
  refine wpAnyH_ready (rs := [7]) (by kernel_rfl) (by simp) ?_
  refine AllReadyH.cons rfl (fun K hK => ?_) AllReadyH.nil
  refine ge.step_callW _ (by rfl) (some 60) rfl 94 #[.tmp 59] #[35] rfl (fun q w' => by rfl) #[.slice bo S bc] (by simp only [List.map_toArray, List.map_cons, List.map_nil]; rfl) (fun v w' => Below x2.heap.size x2 w' ∧ ∀ w0 va xs, Below w'.heap.size w' w0 → Byt w0 va xs → xs.length = ys.length → xs.length ≤ 1048576 → Deed w0 v va (fun o => pgm xs.length o xs ys)) ?_ ?_
  · refine (programming_any _ ys x2 (hid_byt (HYV.out.below FF.out.hid0))).mono ?_
    rintro e w' ⟨v, rfl, z⟩
    exact ⟨_, rfl, z⟩
  rintro deed x3 ⟨hb9, z9⟩
  have HL : Hid (Lay M x3 c r d q pv tv g N P S pl (mkX (xi X) (at1 (xp X) b ((xp X b).set j (u + 1))) (xe X) (xs X) (xo X) (xt X))) := HL.out.below hb9
  have FF : Hid (Frm M w x3) := FF.out.tr (Frm.of_below hb9)
  have HMw : Hid (Mlt M x3) := fun k hk => Nat.lt_of_lt_of_le (HMw.out k hk) hb9.size
  have hS : Ar x3 w.heap.size 0 .i64 p := hS.below hb9 (hS.lt (by omega))
  have HDV : Hid (Byt (hid M x3) (.slice dq ys.length dc) ys) := HDV.out.below (below_hid hb9)
  have HDE : Hid (∀ w0 va xs, Below x3.heap.size x3 w0 → Byt w0 va xs → xs.length = ys.length → xs.length ≤ 1048576 → Deed w0 deed va (fun o => pgm xs.length o xs ys)) := z9
  have HBD : Hid (Below x3.heap.size x3 x3) := Below.refl _ _
  clear z9 hb9
  refine hK.out _ _ hS (fun _ => ?_)
  simp only [Act.put, zE1, zE2, zE3]
  clear hK K
  refine wpAnyH_ready (rs := [8]) (by kernel_rfl) (by simp) ?_
  refine AllReadyH.cons rfl (fun K hK => ?_) AllReadyH.nil
  have cb := HL.out.part n S HLM.out.2 (N * (P * S) - n * S) (by have := HLM.out.2; omega) (by have := HL.out.bytes; omega)
  have cl := cut_len2 HL.out n S HLM.out.2
  have hdd : Deed x3 deed (.slice (some ⟨d, n * S, none⟩) S (N * (P * S) - n * S)) (fun o => pgm S o (cut S (xi X) n) ys) := by
    have := HDE.out x3 _ _ HBD.out cb (by rw [HLS.out]; exact cl) (by have := HLM.out.1; omega)
    have e9 : (cut S (xi (mkX (xi X) (at1 (xp X) b ((xp X b).set j (u + 1))) (xe X) (xs X) (xo X) (xt X))) n).length = S := cl
    rw [e9] at this
    exact this
  refine ge.step_callW _ (by rfl) (some 61) rfl 93 #[.tmp 53, .tmp 57, .tmp 58, .tmp 60] #[30, 114, 35, 170] rfl (fun q w' => by rfl) #[.pointer (some ⟨c, 0, none⟩), .agg (opc (opn 1 b j ys 0) (.slice dq ys.length dc)).toArray, (.slice (some ⟨d, n * S, none⟩) S (N * (P * S) - n * S)), deed] (by simp only [List.map_toArray, List.map_cons, List.map_nil]; rfl) (fun v w' => Perf M x3 c r d q pv g N P S pl (mkX (xi X) (at1 (xp X) b ((xp X b).set j (u + 1))) (xe X) (xs X) (xo X) (xt X)) (n * S) (pgm S (pl (xt X).length) (cut S (xi X) n) ys) (opn 1 b j ys 0) (pl (xt X).length) (.returned v) w') ?_ ?_
  · refine (perform_any HL.out HMw.out HON.out (opn 1 b j ys 0) rfl (.slice dq ys.length dc) (n * S) S (N * (P * S) - n * S) deed (fun o => pgm S o (cut S (xi X) n) ys) hdd HDV.out HLM.out.2 (fun o => pgm_wf S o (cut_all S (xi X) n HL.out.2.2.2.2.1.2.2) cl) htr).mono ?_
    intro e w' z
    obtain ⟨M', tv', e1, z1⟩ := z
    exact ⟨_, e1, M', tv', rfl, z1⟩
  rintro v9 x4 ⟨M', tv', e9, L9, S9, F9, T9⟩
  injection e9 with e9
  subst e9
  rw [← HPO.out] at L9 ⊢
  have HL9 : Hid (Lay M' x4 c r d q pv tv' g N P S pl (mkX (laid (xi X) (n * S) (pgm S po (cut S (xi X) n) ys)) (at1 (xp X) b ((xp X b).set j (u + 1))) (xe X) (xs X) (!crs po) (xt X ++ [opn 1 b j ys (ans po)]))) := L9
  have hz : x3.heap.size < x3.heap.size + 1 := by omega
  have FF9 : Hid ((∀ k, k < w.heap.size → M' k = M k) ∧ Frm M w x4 ∧ Mlt M' x4) := ⟨fun k hk => S9 k (Nat.lt_of_lt_of_le hk FF.out.size), FF.out.tr F9, T9⟩
  have hS : Ar x4 w.heap.size 0 .i64 p := hS.heap (F9.block (hS.lt (by omega)) hbM.out)
  clear L9 S9 F9 T9 cb cl hdd hz
  refine hK.out _ _ hS (fun _ => ?_)
  simp only [Act.put, zE1, zE2, zE3]
  clear hK K
  refine tkH 9 (some 6) ((.int .i64 (ans po))) rfl rfl (Or.inl ⟨by rfl, fun w' hw' => by rfl⟩) hS ?_
  simp only [Act.put, zE1, zE2, zE3]
  refine wpAnyH_done (by kernel_rfl) ?_ _
  clear hS
  go_wp2
  go_ret
  exact ⟨M', tv', rfl, HL9.out, FF9.out⟩
end
end Go.Proofs.YtakibiigcdgohaaGreatDoor.na
