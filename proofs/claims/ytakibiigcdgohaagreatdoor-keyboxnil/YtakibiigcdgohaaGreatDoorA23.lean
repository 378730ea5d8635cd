/- Parts of the proof: what KeyboxNil reaches. No claim of its own. -/
import Derived.WalkKit
import Derived.WalkSmall
import Derived.ProofKit
import Derived.OpenShut
import Derived.BigQuiet
import Derived.Deep.QuietTactic
import Derived.Deep.WholeRow
import Derived.Deep.MidRow
import Derived.Laws.StructEq
import Derived.Laws.AppendOwnNone
import Derived.Deep.RegionHeld3
import Derived.Test.YtakibiigcdgohaaGreatDoorA00
import Derived.Test.YtakibiigcdgohaaGreatDoorA01
import Derived.Test.YtakibiigcdgohaaGreatDoorA02
import Derived.Test.YtakibiigcdgohaaGreatDoorA03
import Derived.Test.YtakibiigcdgohaaGreatDoorA09
import Derived.Test.YtakibiigcdgohaaGreatDoorA10
import Derived.Test.YtakibiigcdgohaaGreatDoorA17
import Derived.Test.YtakibiigcdgohaaGreatDoorA22
namespace Go.Proofs.YtakibiigcdgohaaGreatDoor.vb
open Go.RowKit Go.Proofs.YtakibiigcdgohaaGreatDoor.fa Go.Proofs.YtakibiigcdgohaaGreatDoor.he Go.Proofs.YtakibiigcdgohaaGreatDoor.na Go.Proofs.YtakibiigcdgohaaGreatDoor.ck
set_option maxRecDepth 20000
theorem dst_none {P T : Nat} {pl : Pln} {b : Bx} {k : Nat} (ho : off b.s = false) (hp : pl (ops b.s) = none) : dst P T pl b k = ({ b with s := edo P T pl b.s k, cln := at1 b.cln k true, lk := at1 b.lk k false }, 0) := by
  unfold dst
  rw [if_neg (by rw [ho]; exact Bool.false_ne_true), hp]
theorem wri_none {N P S k : Nat} {pl : Pln} {xs : List Int} {gen : Int} (h1 : 32 ≤ S) (h2 : S ≤ 4096) (hl : xs.length = 624) (ha : AllB xs) (hg0 : 0 ≤ gen ∧ gen ≤ 18446744073709551615) (hP : nc S ≤ P) (hk : k < N) : ∀ (m : Nat) (s : St) (i : Nat), i + (m + 1) = nc S + 1 → Wst P S k xs gen i s → (∀ j, j ≤ m → pl (ops s + j) = none) →
    (wri N P (S + 88) pl (kps S xs gen (List.replicate 8 255)) k (m + 1) s i).2 = 0 ∧ ops (wri N P (S + 88) pl (kps S xs gen (List.replicate 8 255)) k (m + 1) s i).1 = ops s + (m + 1)
  | 0, s, i, hi, h, hp => by
    have n := nc_le h1 h2
    have e : i = nc S := by omega
    subst e
    obtain ⟨e1, -⟩ := wst_mark (N := N) (pl := pl) h1 h2 hl ha hg0 hP hk h
    have w1 : wpl (kps S xs gen (List.replicate 8 255)) (nc S) = nc S - 1 := by unfold wpl; rw [kps_len]; omega
    have w2 : wth (S + 88) (kps S xs gen (List.replicate 8 255)) (nc S) = he.mark (S + 88) := by unfold wth; rw [kps_len, if_neg (Nat.lt_irrefl _)]
    have p0 : pl (ops s) = none := hp 0 (Nat.le_refl _)
    unfold wri
    rw [w1, w2, e1, p0, if_pos (by rfl)]
    exact ⟨rfl, rfl⟩
  | m + 1, s, i, hi, h, hp => by
    have n := nc_le h1 h2
    have hlt : i < nc S := by omega
    have e1 := wst_prg (N := N) (pl := pl) h1 h2 hl ha hP hk hlt h
    have w1 : wpl (kps S xs gen (List.replicate 8 255)) i = i := by unfold wpl; rw [kps_len]; omega
    have w2 : wth (S + 88) (kps S xs gen (List.replicate 8 255)) i = pgk S xs gen (List.replicate 8 255) i := by unfold wth; rw [kps_len, if_pos hlt, kps_255 S xs gen i hlt]
    have p0 : pl (ops s) = none := hp 0 (Nat.zero_le _)
    unfold wri
    rw [w1, w2, e1, p0, if_pos (by rfl)]
    have z := wri_none h1 h2 hl ha hg0 hP hk m (pdo (S + 88) pl s k i (pgk S xs gen (List.replicate 8 255) i)) (i + 1) (by omega) (wst_next h1 h2 hl ha hP hlt h p0) fun j hj => by
      have q := hp (j + 1) (by omega)
      rw [← Nat.add_assoc] at q
      show pl (ops s + 1 + j) = none
      rw [Nat.add_right_comm]; exact q
    refine ⟨z.1, z.2.trans ?_⟩
    show ops s + 1 + (m + 1) = _
    omega
def b0 (T : Nat) : Bx := { s := new T, cur := -1, gen := 0, cln := fun _ => false, bad := fun _ => false, lk := fun _ => false, hf := false }
theorem oth_none {P T : Nat} {pl : Pln} : ∀ (m : Nat) (b : Bx) (k : Nat), off b.s = false → (∀ j, k ≤ j → b.cln j = false ∧ b.bad j = false ∧ (j : Int) ≠ b.cur) → (∀ j, j < m → pl (ops b.s + j) = none) →
    (oth P T pl m b k).2 = 0 ∧ ops (oth P T pl m b k).1.s = ops b.s + m ∧ (oth P T pl m b k).1.hf = b.hf
  | 0, _, _, _, _, _ => ⟨rfl, rfl, rfl⟩
  | m + 1, b, k, ho, hc, hp => by
    have p0 : pl (ops b.s) = none := hp 0 (by omega)
    obtain ⟨c1, c2, c3⟩ := hc k (Nat.le_refl _)
    unfold oth
    rw [if_neg (by rw [c1, c2]; simp [c3]), dst_none ho p0, if_neg (by show ¬ (0 : Int) = 4; decide)]
    have z := oth_none (P := P) (T := T) (pl := pl) m { b with s := edo P T pl b.s k, cln := at1 b.cln k true, lk := at1 b.lk k false } (k + 1) (by show crs (pl (ops b.s)) = false; rw [p0]; rfl) (fun j hj => by
      have q := hc j (by omega)
      exact ⟨(at1_other _ _ _ _ (by omega)).trans q.1, q.2.1, q.2.2⟩) (fun j hj => by
      have q := hp (j + 1) (by omega)
      show pl (ops b.s + 1 + j) = none
      rw [Nat.add_right_comm]; rw [← Nat.add_assoc] at q; exact q)
    refine ⟨z.1, z.2.1.trans ?_, z.2.2⟩
    show ops b.s + 1 + m = _
    omega
theorem cmt_first {S N P : Nat} {pl : Pln} {xs : List Int} {g : Int} (s1 : 32 ≤ S) (s2 : S ≤ 4096) (hP : nc S ≤ P) (h4 : 4 ≤ N) (hl : xs.length = 624) (ha : AllB xs) (hg0 : 0 ≤ g ∧ g ≤ 18446744073709551615) (hp : ∀ j, j < nc S + 5 → pl j = none) :
    (cmt N P (S + 88) pl (b0 (S + 88)) (kps S xs g (List.replicate 8 255)) g).2 = 0 ∧ Inv S N P (cmt N P (S + 88) pl (b0 (S + 88)) (kps S xs g (List.replicate 8 255)) g).1 xs ∧ (cmt N P (S + 88) pl (b0 (S + 88)) (kps S xs g (List.replicate 8 255)) g).1.gen = g ∧
    ops (cmt N P (S + 88) pl (b0 (S + 88)) (kps S xs g (List.replicate 8 255)) g).1.s = nc S + 5 ∧ (cmt N P (S + 88) pl (b0 (S + 88)) (kps S xs g (List.replicate 8 255)) g).1.hf = false ∧ off (cmt N P (S + 88) pl (b0 (S + 88)) (kps S xs g (List.replicate 8 255)) g).1.s = false ∧ (cmt N P (S + 88) pl (b0 (S + 88)) (kps S xs g (List.replicate 8 255)) g).1.cur = 0 := by
  have n := nc_le s1 s2
  have p0 : pl (ops (b0 (S + 88)).s) = none := hp 0 (by omega)
  obtain ⟨b1, e1⟩ : ∃ q : Bx, q = { b0 (S + 88) with s := edo P (S + 88) pl (b0 (S + 88)).s 0, cln := at1 (b0 (S + 88)).cln 0 true, lk := at1 (b0 (S + 88)).lk 0 false } := ⟨_, rfl⟩
  have d1 : dst P (S + 88) pl (b0 (S + 88)) 0 = (b1, 0) := by rw [e1]; exact dst_none rfl p0
  have o1 : off b1.s = false := by rw [e1]; show crs (pl (ops (b0 (S + 88)).s)) = false; rw [p0]; rfl
  have ops1 : ops b1.s = 1 := by rw [e1]; rfl
  have f1 : Fsh P (S + 88) b1.s 0 := by rw [e1]; exact edo_fsh p0
  have w1 := wri_none (N := N) (P := P) (k := 0) (pl := pl) s1 s2 hl ha hg0 hP (by omega) (nc S) b1.s 0 (by omega) (wst_zero f1 o1) fun j hj => hp _ (by rw [ops1]; omega)
  have wo := wri_out (N := N) (P := P) (k := 0) (pl := pl) s1 s2 hl ha hg0 hP (by omega) (nc S) b1.s 0 (by omega) (wst_zero f1 o1)
  have hll : (kps S xs g (List.replicate 8 255)).length = nc S := kps_len _ _ _ _
  obtain ⟨r, er⟩ : ∃ r, wri N P (S + 88) pl (kps S xs g (List.replicate 8 255)) 0 (nc S + 1) b1.s 0 = r := ⟨_, rfl⟩
  have wfr : Wf N P (S + 88) r.1 := by rw [← er, e1]; exact wri_wf _ _ _ (edo_wf (new_wf N P (S + 88)) pl 0)
  have sm : ∀ q, q ≠ 0 → Sam (new (S + 88)) r.1 q := fun q hq => by
    have z : Sam (new (S + 88)) b1.s q := by rw [e1]; exact sam_edo hq
    rw [← er]; exact z.trans (sam_wri hq _ _ _)
  rw [er] at w1 wo
  have dn : off r.1 = false ∧ Dne S 0 xs g r.1 := by
    rcases wo with z | z | z
    · exact z.2
    · exact absurd (w1.1.symm.trans z.1) (by decide)
    · exact absurd (w1.1.symm.trans z.1) (by decide)
  obtain ⟨b2, e2⟩ : ∃ q : Bx, q = { b1 with s := r.1, cln := at1 b1.cln 0 false, cur := 0, gen := g } := ⟨_, rfl⟩
  have fl : ∀ j, b2.cln j = false ∧ b2.bad j = false ∧ b2.lk j = false := fun j => by
    rw [e2, e1]
    by_cases q : j = 0
    · subst q
      exact ⟨show at1 (at1 (b0 (S + 88)).cln 0 true) 0 false 0 = false from at1_same _ _ _, rfl, show at1 (b0 (S + 88)).lk 0 false 0 = false from at1_same _ _ _⟩
    · exact ⟨show at1 (at1 (b0 (S + 88)).cln 0 true) 0 false j = false from (at1_other _ _ _ _ q).trans (at1_other _ _ _ _ q), rfl, show at1 (b0 (S + 88)).lk 0 false j = false from at1_other _ _ _ _ q⟩
  have i2 : Inv S N P b2 xs := by
    refine ⟨by rw [e2]; exact wfr, fun j hj => ⟨fun z => absurd z (by rw [(fl j).1]; exact Bool.false_ne_true), fun z => absurd z (by rw [(fl j).2.1]; exact Bool.false_ne_true)⟩, fun j _ => (fl j).2.2, 0, by omega, by rw [e2]; rfl, (fl 0).1, by rw [e2]; exact dn.2, fun j hj hne => .inl (.inl ?_)⟩
    rw [e2]
    show ¬ Kcm S (pgs r.1 j (nc S - 1))
    rw [pgs_sam (sm j hne)]
    exact blank_open S
  have et : tr1 N P (S + 88) pl (b0 (S + 88)) 0 (kps S xs g (List.replicate 8 255)) = ({ b1 with s := r.1, cln := at1 b1.cln 0 false }, 0) := by
    unfold tr1
    rw [if_neg (show ¬ (b0 (S + 88)).cln 0 = true from Bool.false_ne_true), d1, if_pos (by rfl)]
    unfold tr2
    simp only []
    rw [hll, er, w1.1, if_pos (.inl rfl)]
  have ec : cmt N P (S + 88) pl (b0 (S + 88)) (kps S xs g (List.replicate 8 255)) g = oth P (S + 88) pl 4 b2 0 := by
    unfold cmt
    rw [if_neg (show ¬ off (b0 (S + 88)).s = true from Bool.false_ne_true)]
    show cmi N P (S + 88) pl (kps S xs g (List.replicate 8 255)) g 4 (b0 (S + 88)) 0 = _
    unfold cmi
    rw [if_neg (show ¬ (((0 % 4 : Nat) : Int) = (b0 (S + 88)).cur ∨ (b0 (S + 88)).bad (0 % 4) = true) by simp [b0]), show 0 % 4 = 0 from rfl, et, if_neg (by show ¬ (0 : Int) = 4; decide), if_pos (by rfl), e2]
    rfl
  have eo : oth P (S + 88) pl 4 b2 0 = oth P (S + 88) pl 3 b2 1 := by
    show (if _ then _ else _) = _
    rw [if_pos (.inl (by rw [e2]; rfl))]
  have ops2 : ops b2.s = nc S + 2 := by rw [e2]; show ops r.1 = _; rw [w1.2, ops1]; omega
  have o2 : off b2.s = false := by rw [e2]; exact dn.1
  have z := oth_none (P := P) (T := S + 88) (pl := pl) 3 b2 1 o2 (fun j hj => ⟨(fl j).1, (fl j).2.1, by rw [e2]; show (j : Int) ≠ 0; omega⟩) (fun j hj => hp _ (by omega))
  have hf2 : b2.hf = false := by rw [e2, e1]; rfl
  have c := oth_c (pl := pl) (rec := xs) n.1 hP h4 3 b2 1 (by omega) i2 o2 (by rw [z.2.2]; exact hf2)
  have c' := c.2 (by rw [z.1]; decide)
  rw [ec, eo]
  exact ⟨z.1, c'.1, c'.2.1.trans (by rw [e2]), z.2.1.trans (by rw [ops2]), z.2.2.trans hf2, c'.2.2, (oth_j 3 b2 1 i2.2.1 (by rw [z.1]; decide)).2.2.1.trans (by rw [e2])⟩
end Go.Proofs.YtakibiigcdgohaaGreatDoor.vb
